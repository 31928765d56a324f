package tests

import (
	"math"
	"strconv"
	"strings"
	"testing"

	"loop.example/g00068/impl"
)

func frame(unit int64, kind int64, seq int64, body string) impl.Frame {
	return impl.Frame{Unit: unit, Kind: kind, Seq: seq, Body: body}
}

// allBytes has each byte once, in order.
func allBytes() string {
	data := make([]byte, 256)
	for i := range data {
		data[i] = byte(i)
	}
	return string(data)
}

// rightFrames has both limits of each part, bodies of any bytes, and bodies that look like frames or beginnings of frames.
func rightFrames() []impl.Frame {
	every := allBytes()
	list := []impl.Frame{
		frame(0, 1, 0, ""), frame(250, 9, 65535, ""), frame(1, 2, 300, "a"),
		frame(126, 5, 126<<8|126, "~"), frame(0, 9, 255, "\x00"), frame(250, 1, 256, "\xff\xff"),
		frame(7, 3, 32768, strings.Repeat("~", 64)), frame(8, 4, 32767, strings.Repeat("\x00", 63)),
		frame(9, 6, 1, "~\x01\x02\x00\x00\x40"), frame(10, 7, 2, "~\x01\x02"), frame(11, 8, 3, "\u00e9\n\t\u4e2d"),
		frame(12, 1, 4, impl.FrameText(frame(1, 2, 300, "a"))),
		frame(13, 2, 5, impl.FrameText(frame(1, 2, 300, "a"))+impl.FrameText(frame(2, 2, 301, ""))),
	}
	for from := 0; from < len(every); from += 64 {
		list = append(list, frame(int64(from), 9, int64(from)*255, every[from:from+64]))
	}
	return list
}

func wrongFrames() []impl.Frame {
	least, most := int64(math.MinInt64), int64(math.MaxInt64)
	long := strings.Repeat("b", impl.MaxBody+1)
	return []impl.Frame{
		{}, frame(-1, 1, 0, ""), frame(251, 1, 0, ""), frame(255, 1, 0, ""), frame(256, 1, 0, ""), frame(257, 1, 0, ""),
		frame(least, 1, 0, ""), frame(most, 1, 0, ""), frame(1<<32, 1, 0, ""),
		frame(0, 0, 0, ""), frame(0, 10, 0, ""), frame(0, -1, 0, ""), frame(0, 257, 0, ""), frame(0, least, 0, ""), frame(0, most, 0, ""),
		frame(0, 1<<32+1, 0, ""),
		frame(0, 1, -1, ""), frame(0, 1, 65536, ""), frame(0, 1, 65537, ""), frame(0, 1, least, ""), frame(0, 1, most, ""),
		frame(0, 1, 0, long), frame(250, 9, 65535, long), frame(0, 1, 0, strings.Repeat("b", 256)), frame(0, 1, 0, strings.Repeat("b", 257)),
		frame(0, 1, 0, strings.Repeat("b", impl.MaxBytes+1)),
	}
}

// plainSum goes by whole numbers, word by word as chapter 3 has it.
func plainSum(text string) int {
	sum := 65535
	for i := 0; i < len(text); i++ {
		sum ^= int(text[i]) * 256
		for times := 0; times < 8; times++ {
			sum = sum * 2
			if sum >= 65536 {
				sum ^= 69665
			}
		}
	}
	return sum
}

// rawFrame has the bytes of a frame, right or not, with the sum that belongs to them.
func rawFrame(unit byte, kind byte, seq int, length byte, body string) string {
	text := string([]byte{unit, kind, byte(seq / 256), byte(seq % 256), length}) + body
	sum := plainSum(text)
	return "~" + text + string([]byte{byte(sum / 256), byte(sum % 256)})
}

func sameRead(t *testing.T, what string, text string, want impl.FrameOut) {
	t.Helper()
	if got := impl.FrameRead(text); got != want {
		t.Errorf("FrameRead of %s (%d bytes, from %.40q): got %#v, want %#v", what, len(text), text, got, want)
	}
}

func sameStream(t *testing.T, what string, text string, want impl.FramesOut) {
	t.Helper()
	got := impl.FramesOf(text)
	if got.Lost != want.Lost || got.Rest != want.Rest || got.Code != want.Code || len(got.Frames) != len(want.Frames) {
		t.Errorf("FramesOf of %s (%d bytes, from %.40q): got %d frames and %d, %d, %d, want %d frames and %d, %d, %d", what, len(text), text,
			len(got.Frames), got.Lost, got.Rest, got.Code, len(want.Frames), want.Lost, want.Rest, want.Code)
		return
	}
	for i, f := range want.Frames {
		if got.Frames[i] != f {
			t.Errorf("FramesOf of %s: frame %d: got %#v, want %#v", what, i, got.Frames[i], f)
		}
	}
}

func frameFault(code int64) impl.FrameOut {
	return impl.FrameOut{Code: code}
}

func TestFrameRight(t *testing.T) {
	for _, f := range rightFrames() {
		if !impl.FrameRight(f) {
			t.Errorf("FrameRight(%#v) is false", f)
		}
	}
	for _, f := range wrongFrames() {
		if impl.FrameRight(f) {
			t.Errorf("FrameRight(%.60q, unit %d, kind %d, seq %d) is true", f.Body, f.Unit, f.Kind, f.Seq)
		}
	}
	for n := int64(-2); n <= 300; n++ {
		if got, want := impl.FrameRight(frame(n, 1, 0, "")), n >= 0 && n <= 250; got != want {
			t.Errorf("FrameRight with Unit %d: got %v", n, got)
		}
		if got, want := impl.FrameRight(frame(0, n, 0, "")), n >= 1 && n <= 9; got != want {
			t.Errorf("FrameRight with Kind %d: got %v", n, got)
		}
		if got, want := impl.FrameRight(frame(0, 1, 0, strings.Repeat("~", int(max(n, 0))))), n <= impl.MaxBody; got != want {
			t.Errorf("FrameRight with %d bytes of Body: got %v", n, got)
		}
	}
}

func TestFrameSum(t *testing.T) {
	for _, c := range []struct {
		text string
		want int64
	}{
		{"", 65535},
		{"123456789", 10673},
		{"A", 47381},
		{"\x00", 57840},
		{"\xff", 65280},
		{"\xff\xff", 0},
	} {
		if got := impl.FrameSum(c.text); got != c.want {
			t.Errorf("FrameSum(%q): got %d, want %d", c.text, got, c.want)
		}
	}
	texts := []string{allBytes(), "~", "\u00e9", strings.Repeat("\x00", 300), strings.Repeat("\xff", 300)}
	for i := 0; i < 256; i++ {
		one := string([]byte{byte(i)})
		texts = append(texts, one, one+"a", "a"+one, one+one+one)
	}
	for _, text := range texts {
		if got, want := impl.FrameSum(text), int64(plainSum(text)); got != want {
			t.Errorf("FrameSum(%q): got %d, want %d", text, got, want)
		}
	}
}

func TestFrameSumSize(t *testing.T) {
	for _, text := range []string{"a", "\x00", "~"} {
		full := strings.Repeat(text, impl.MaxBytes)
		if got, want := impl.FrameSum(full), int64(plainSum(full)); got != want || want == 0 {
			t.Errorf("FrameSum of MaxBytes of %q: got %d, want %d", text, got, want)
		}
		if got := impl.FrameSum(full + text); got != 0 {
			t.Errorf("FrameSum of one byte more of %q: got %d, want 0", text, got)
		}
	}
}

func TestFrameText(t *testing.T) {
	for _, c := range []struct {
		f    impl.Frame
		head string
	}{
		{frame(1, 2, 300, "a"), "~\x01\x02\x01\x2c\x01a"},
		{frame(0, 1, 0, ""), "~\x00\x01\x00\x00\x00"},
		{frame(250, 9, 65535, "\xff"), "~\xfa\x09\xff\xff\x01\xff"},
		{frame(3, 4, 255, "~~"), "~\x03\x04\x00\xff\x02~~"},
		{frame(3, 4, 256, strings.Repeat("z", 64)), "~\x03\x04\x01\x00\x40" + strings.Repeat("z", 64)},
	} {
		sum := impl.FrameSum(c.head[1:])
		want := c.head + string([]byte{byte(sum / 256), byte(sum % 256)})
		if got := impl.FrameText(c.f); got != want {
			t.Errorf("FrameText(%#v): got %q, want %q", c.f, got, want)
		}
	}
	for _, f := range rightFrames() {
		want := rawFrame(byte(f.Unit), byte(f.Kind), int(f.Seq), byte(len(f.Body)), f.Body)
		if got := impl.FrameText(f); got != want {
			t.Errorf("FrameText(%#v): got %q, want %q", f, got, want)
		}
	}
	for _, f := range wrongFrames() {
		if got := impl.FrameText(f); got != "" {
			t.Errorf("FrameText of a frame that is not right: got %.60q, want nothing", got)
		}
	}
}

func TestFrameReadAnswers(t *testing.T) {
	for _, f := range rightFrames() {
		text := impl.FrameText(f)
		want := impl.FrameOut{F: f, Used: int64(8 + len(f.Body)), Code: impl.OK}
		for _, behind := range []string{"", "~", "x", "\x00", text, "~\xff\xff\xff\xff\xff\xff\xff"} {
			sameRead(t, "a frame and what is behind it", text+behind, want)
		}
	}
}

func TestFrameReadHeads(t *testing.T) {
	for _, low := range []int{0, 1, 126, 127, 128, 255} {
		for i := 0; i < 256; i++ {
			n := byte(i)
			want := frameFault(impl.ErrForm)
			if i <= 250 {
				want = impl.FrameOut{F: frame(int64(i), 3, int64(low), "ab"), Used: 10}
			}
			sameRead(t, "a unit", rawFrame(n, 3, low, 2, "ab"), want)

			want = frameFault(impl.ErrForm)
			if i >= 1 && i <= 9 {
				want = impl.FrameOut{F: frame(250, int64(i), int64(low)*256, ""), Used: 8}
			}
			sameRead(t, "a kind", rawFrame(250, n, low*256, 0, ""), want)

			want = frameFault(impl.ErrForm)
			body := strings.Repeat("q", i)
			if i <= impl.MaxBody {
				want = impl.FrameOut{F: frame(4, 9, int64(low), body), Used: int64(8 + i)}
			}
			sameRead(t, "a length", rawFrame(4, 9, low, n, body), want)
		}
	}
}

func TestFrameReadFaultsInOrder(t *testing.T) {
	long := strings.Repeat("b", 65)
	for _, c := range []struct {
		what string
		text string
		code int64
	}{
		{"no byte", "", impl.ErrNone},
		{"another first byte", "x", impl.ErrNone},
		{"another first byte, and a whole frame behind it", "x" + rawFrame(1, 2, 3, 0, ""), impl.ErrNone},
		{"another first byte, and too few", "\x7f\x01\x01", impl.ErrNone},
		{"another first byte, and all else wrong", "\x00\xff\x00\x00\x00\xff", impl.ErrNone},
		{"the mark alone", "~", impl.ErrShort},
		{"five bytes", "~\x01\x02\x00\x00", impl.ErrShort},
		{"five bytes, a wrong unit", "~\xff\x02\x00\x00", impl.ErrShort},
		{"five bytes, a wrong kind", "~\x01\x00\x00\x00", impl.ErrShort},
		{"two bytes, a wrong unit", "~\xfb", impl.ErrShort},
		{"six bytes", "~\x01\x02\x00\x00\x00", impl.ErrShort},
		{"six bytes, a wrong unit", "~\xfb\x02\x00\x00\x00", impl.ErrForm},
		{"six bytes, no kind", "~\x01\x00\x00\x00\x00", impl.ErrForm},
		{"six bytes, a wrong kind", "~\x01\x0a\x00\x00\x00", impl.ErrForm},
		{"six bytes, the greatest length", "~\x01\x02\x00\x00\x40", impl.ErrShort},
		{"six bytes, a length beyond", "~\x01\x02\x00\x00\x41", impl.ErrForm},
		{"a wrong unit and a wrong sum", "~\xfb\x02\x00\x00\x00zz", impl.ErrForm},
		{"a length beyond, the sum right", rawFrame(1, 2, 3, 65, long), impl.ErrForm},
		{"the body one byte short", "~\x01\x02\x00\x00\x03abzz", impl.ErrShort},
		{"the sum one byte short", "~\x01\x02\x00\x00\x03abcz", impl.ErrShort},
		{"no body, the sum one byte short", "~\x01\x02\x00\x00\x00z", impl.ErrShort},
		{"a wrong sum", "~\x01\x02\x00\x00\x03abczz", impl.ErrSum},
		{"a wrong sum, and a whole frame behind it", "~\x01\x02\x00\x00\x00zz" + rawFrame(1, 2, 3, 0, ""), impl.ErrSum},
	} {
		sameRead(t, c.what, c.text, frameFault(c.code))
	}
}

// The other sums are those of bytes taken otherwise than the chapter says, or told the lower one first.
func TestFrameReadOtherSums(t *testing.T) {
	for _, f := range rightFrames() {
		text := impl.FrameText(f)
		end := len(text) - 2
		right := plainSum(text[1:end])
		for _, other := range []int{plainSum(text[:end]), plainSum(text[2:end]), plainSum(text[6:end]), right>>8 | right<<8&0xff00, right ^ 0xffff, 0, 65535} {
			if other != right {
				sameRead(t, "another sum", text[:end]+string([]byte{byte(other >> 8), byte(other)}), frameFault(impl.ErrSum))
			}
		}
	}
}

func TestFrameReadSize(t *testing.T) {
	f := frame(1, 2, 300, "a")
	text := impl.FrameText(f)
	full := text + strings.Repeat("x", impl.MaxBytes-len(text))
	sameRead(t, "MaxBytes", full, impl.FrameOut{F: f, Used: 9})
	sameRead(t, "one more", full+"x", frameFault(impl.ErrSize))
	for _, first := range []string{"x", "~", "\x00"} {
		many := strings.Repeat(first, impl.MaxBytes+1)
		sameRead(t, "one more of "+strconv.Quote(first), many, frameFault(impl.ErrSize))
		sameStream(t, "one more of "+strconv.Quote(first), many, impl.FramesOut{Code: impl.ErrSize})
	}
	sameRead(t, "MaxBytes of no mark", strings.Repeat("x", impl.MaxBytes), frameFault(impl.ErrNone))
	sameRead(t, "MaxBytes of marks", strings.Repeat("~", impl.MaxBytes), frameFault(impl.ErrForm))
}

func TestPromise5TurnedByteIsNotRead(t *testing.T) {
	for _, f := range rightFrames() {
		text := impl.FrameText(f)
		for place := range len(text) {
			if place == 5 {
				continue
			}
			for turn := 1; turn < 256; turn++ {
				data := []byte(text)
				data[place] ^= byte(turn)
				code := int64(impl.ErrSum)
				switch {
				case place == 0:
					code = impl.ErrNone
				case place == 1 && data[1] > 250, place == 2 && (data[2] == 0 || data[2] > 9):
					code = impl.ErrForm
				}
				sameRead(t, "a turned byte at "+strconv.Itoa(place), string(data), frameFault(code))
				sameRead(t, "a turned byte, more behind it", string(data)+text, frameFault(code))
			}
		}
	}
}

func TestPromise5CutOffIsNotRead(t *testing.T) {
	for _, f := range rightFrames() {
		text := impl.FrameText(f)
		sameRead(t, "nothing of a frame", text[:0], frameFault(impl.ErrNone))
		sameStream(t, "nothing of a frame", text[:0], impl.FramesOut{})
		for size := 1; size < len(text); size++ {
			sameRead(t, "a frame cut off", text[:size], frameFault(impl.ErrShort))
			sameStream(t, "a frame cut off", text[:size], impl.FramesOut{Rest: int64(size)})
			sameStream(t, "a frame cut off behind a whole one", text+text[:size], impl.FramesOut{Frames: []impl.Frame{f}, Rest: int64(size)})
		}
	}
}
