package tests

import (
	"math/rand"
	"strings"
	"testing"

	"loop.example/g00068/impl"
)

// textOf has the bytes of frames one behind the other.
func textOf(frames ...impl.Frame) string {
	text := ""
	for _, f := range frames {
		text += impl.FrameText(f)
	}
	return text
}

// plainFrames goes from the left by FrameRead alone, as chapter 3 says it of FramesOf.
func plainFrames(text string) impl.FramesOut {
	out := impl.FramesOut{}
	for text != "" {
		one := impl.FrameRead(text)
		if one.Code == impl.ErrShort {
			out.Rest = int64(len(text))
			return out
		}
		if one.Code == impl.OK {
			out.Frames = append(out.Frames, one.F)
			text = text[one.Used:]
			continue
		}
		out.Lost++
		text = text[1:]
	}
	return out
}

func TestPromise4FramesComeBack(t *testing.T) {
	list := rightFrames()
	sameStream(t, "no frame", "", impl.FramesOut{})
	sameStream(t, "all of them", textOf(list...), impl.FramesOut{Frames: list})
	for i, a := range list {
		sameStream(t, "one", textOf(a), impl.FramesOut{Frames: []impl.Frame{a}})
		for _, b := range list {
			sameStream(t, "two", textOf(a, b), impl.FramesOut{Frames: []impl.Frame{a, b}})
			sameStream(t, "three", textOf(b, a, list[i/2]), impl.FramesOut{Frames: []impl.Frame{b, a, list[i/2]}})
		}
	}
}

func TestPromise4AnyBytes(t *testing.T) {
	random := rand.New(rand.NewSource(4))
	for range 300 {
		frames := []impl.Frame{}
		for range random.Intn(12) {
			body := make([]byte, random.Intn(impl.MaxBody+1))
			for i := range body {
				body[i] = byte(random.Intn(256))
				if random.Intn(3) == 0 {
					body[i] = "~\x01\x02\x00"[random.Intn(4)]
				}
			}
			frames = append(frames, frame(random.Int63n(251), 1+random.Int63n(9), random.Int63n(65536), string(body)))
		}
		sameStream(t, "frames of any bytes", textOf(frames...), impl.FramesOut{Frames: frames})
	}
}

func TestPromise4LongStreams(t *testing.T) {
	small, great := frame(126, 9, 126, ""), frame(126, 9, 126, strings.Repeat("~", impl.MaxBody))
	smalls, greats := make([]impl.Frame, impl.MaxBytes/8), make([]impl.Frame, impl.MaxBytes/72)
	for i := range smalls {
		smalls[i] = small
	}
	for i := range greats {
		greats[i] = great
	}
	full := textOf(smalls...)
	if len(full) != impl.MaxBytes {
		t.Fatalf("the smallest frames have %d bytes", len(full))
	}
	sameStream(t, "as many as can be", full, impl.FramesOut{Frames: smalls})
	sameStream(t, "one byte more", full+"x", impl.FramesOut{Code: impl.ErrSize})
	sameStream(t, "one mark more", full+"~", impl.FramesOut{Code: impl.ErrSize})
	sameStream(t, "the greatest ones", textOf(greats...), impl.FramesOut{Frames: greats})
}

func TestFramesOfLost(t *testing.T) {
	a, b := frame(1, 2, 300, "a"), frame(250, 9, 65535, "")
	wrongSum := rawFrame(3, 4, 5, 0, "")
	wrongSum = wrongSum[:7] + string([]byte{wrongSum[7] ^ 1})
	both := []impl.Frame{a, b}
	for _, c := range []struct {
		what string
		text string
		want impl.FramesOut
	}{
		{"one byte", "x", impl.FramesOut{Lost: 1}},
		{"bytes alone", "\x00\xff{}", impl.FramesOut{Lost: 4}},
		{"bytes ahead", "xyz" + textOf(a, b), impl.FramesOut{Frames: both, Lost: 3}},
		{"bytes between", textOf(a) + "xyz" + textOf(b), impl.FramesOut{Frames: both, Lost: 3}},
		{"bytes behind", textOf(a, b) + "xyz", impl.FramesOut{Frames: both, Lost: 3}},
		{"bytes everywhere", "x" + textOf(a) + "yy" + textOf(b) + "zzz", impl.FramesOut{Frames: both, Lost: 6}},
		{"a wrong sum", wrongSum + textOf(a), impl.FramesOut{Frames: []impl.Frame{a}, Lost: 8}},
		{"a wrong unit", "~\xfb\x02\x00\x00\x00" + textOf(a), impl.FramesOut{Frames: []impl.Frame{a}, Lost: 6}},
		{"a mark ahead of a frame", "~" + textOf(b, a), impl.FramesOut{Frames: []impl.Frame{b, a}, Lost: 1}},
		{"marks ahead of a frame", "~~~~~~~~" + textOf(b), impl.FramesOut{Frames: []impl.Frame{b}, Lost: 8}},
		{"a frame in one whose sum is wrong", "~\x01\x02\x00\x00\x09" + textOf(a) + "zz", impl.FramesOut{Frames: []impl.Frame{a}, Lost: 8}},
		{"a frame in one that is too long", "~\x01\x02\x00\x00\x41" + textOf(a), impl.FramesOut{Frames: []impl.Frame{a}, Lost: 6}},
	} {
		sameStream(t, c.what, c.text, c.want)
	}
}

func TestFramesOfRest(t *testing.T) {
	a := frame(1, 2, 300, "a")
	one := []impl.Frame{a}
	for _, c := range []struct {
		what string
		text string
		want impl.FramesOut
	}{
		{"a mark", "~", impl.FramesOut{Rest: 1}},
		{"a mark behind a frame", textOf(a) + "~", impl.FramesOut{Frames: one, Rest: 1}},
		{"a mark behind lost bytes", "xy~", impl.FramesOut{Lost: 2, Rest: 1}},
		{"five bytes that may not be", "~\xff\xff\xff\xff", impl.FramesOut{Rest: 5}},
		{"six bytes that may not be", "~\xff\xff\xff\xff\xff", impl.FramesOut{Lost: 6}},
		{"marks alone", "~~~~~~~", impl.FramesOut{Lost: 2, Rest: 5}},
		{"frames behind a head that asks for more", "~\x01\x02\x00\x00\x40" + textOf(a, a), impl.FramesOut{Rest: 24}},
		{"frames on both sides of such a head", textOf(a) + "x~\x01\x02\x00\x00\x14" + textOf(a, a), impl.FramesOut{Frames: one, Lost: 1, Rest: 24}},
		{"a mark that makes a frame's unit a kind", "~" + textOf(a, a), impl.FramesOut{Rest: 19}},
		{"as many bytes as the head asks for", "~\x01\x02\x00\x00\x10" + textOf(a, a), impl.FramesOut{Frames: []impl.Frame{a, a}, Lost: 6}},
		{"one more asked for", "~\x01\x02\x00\x00\x11" + textOf(a, a), impl.FramesOut{Rest: 24}},
	} {
		sameStream(t, c.what, c.text, c.want)
	}
}

func TestFramesOfFullText(t *testing.T) {
	sameStream(t, "MaxBytes of no mark", strings.Repeat("x", impl.MaxBytes), impl.FramesOut{Lost: impl.MaxBytes})
	sameStream(t, "MaxBytes of marks", strings.Repeat("~", impl.MaxBytes), impl.FramesOut{Lost: impl.MaxBytes - 5, Rest: 5})
	heads := strings.Repeat("~\x01\x02\x00\x00\x40", impl.MaxBytes/6)
	sameStream(t, "heads alone", heads, plainFrames(heads))
}

func TestFramesOfIsFrameReadFromTheLeft(t *testing.T) {
	random := rand.New(rand.NewSource(5))
	pieces := []string{"~", "~\x01\x02\x00\x00", "\x00", "\x02", "\xff", "\x40", "x", textOf(frame(1, 2, 300, "a")), textOf(frame(2, 9, 0, "")), textOf(frame(3, 1, 7, "~\x01\x01~"))}
	for range 3000 {
		text := ""
		for range random.Intn(20) {
			piece := pieces[random.Intn(len(pieces))]
			if random.Intn(4) == 0 {
				piece = piece[:random.Intn(len(piece)+1)]
			}
			text += piece
		}
		sameStream(t, "pieces", text, plainFrames(text))
	}
}

func TestPromise5StreamWithATurnedByte(t *testing.T) {
	a, b, c := frame(1, 2, 300, "abc"), frame(4, 5, 6, "defgh"), frame(250, 9, 65535, "")
	ahead, text, behind := textOf(a), textOf(b), textOf(c)
	for place := range len(text) {
		if place == 5 {
			continue
		}
		for turn := 1; turn < 256; turn++ {
			data := []byte(text)
			data[place] ^= byte(turn)
			for _, f := range impl.FramesOf(ahead + string(data) + behind).Frames {
				if f != a && f != c {
					t.Errorf("byte %d turned by %d: %#v was read", place, turn, f)
				}
			}
		}
	}
}

func TestFramesOfAnswersNewMemory(t *testing.T) {
	a, b := frame(1, 2, 300, "a"), frame(250, 9, 65535, "")
	text := textOf(a, b)
	first := impl.FramesOf(text)
	first.Frames[0] = impl.Frame{}
	_ = append(first.Frames[:1], impl.Frame{})
	sameStream(t, "once more", text, impl.FramesOut{Frames: []impl.Frame{a, b}})
}
