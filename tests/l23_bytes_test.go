package tests

import (
	"encoding/binary"
	"math"
	"math/rand"
	"slices"
	"strings"
	"testing"
	"unicode/utf8"

	"loop.example/g00068/impl"
)

func samePointsText(t *testing.T, what string, list []impl.Point, want string) {
	t.Helper()
	what = "PointsText, " + what
	watchedPoints(t, what, list, func(own []impl.Point) {
		t.Helper()
		if got := impl.PointsText(own); got != want {
			t.Errorf("%s: got %q, want %q", what, got, want)
		}
	})
}

// samePointsRead writes what is told over, so that the next answer would show what is kept.
func samePointsRead(t *testing.T, what string, text string, want impl.PointsOut) {
	t.Helper()
	for range 2 {
		got := impl.PointsRead(text)
		if got.Code != want.Code || !slices.Equal(got.List, want.List) {
			t.Errorf("PointsRead, %s: got %+v of %q, want %+v", what, got, text, want)
		}
		for i := range got.List {
			got.List[i] = impl.Point{At: -9, Value: -9}
		}
	}
}

func sameNoPoints(t *testing.T, what string, text string) {
	t.Helper()
	samePointsRead(t, what, text, impl.PointsOut{Code: impl.ErrSyntax})
}

// sameBothWays asks for the text of a history, and for the history of that text.
func sameBothWays(t *testing.T, what string, list []impl.Point, text string) {
	t.Helper()
	samePointsText(t, what, list, text)
	samePointsRead(t, what, text, impl.PointsOut{List: list})
}

// byHand are texts that were worked out by hand from the words of chapter 24.
func byHand() map[string][]impl.Point {
	return map[string][]impl.Point{
		"":                                     nil,
		"\x00\x00":                             points(0, 0),
		"\x00\x01":                             points(0, -1),
		"\x00\x02":                             points(0, 1),
		"\x00\x03":                             points(0, -2),
		"\x00\x7e":                             points(0, 63),
		"\x00\x7f":                             points(0, -64),
		"\x00\x80\x01":                         points(0, 64),
		"\x00\x81\x01":                         points(0, -65),
		"\x00\xfe\x01":                         points(0, 127),
		"\x00\xff\x01":                         points(0, -128),
		"\x00\x80\x02":                         points(0, 128),
		"\x00\xfe\x7f":                         points(0, 8191),
		"\x00\xff\x7f":                         points(0, -8192),
		"\x00\x80\x80\x01":                     points(0, 8192),
		"\x00\x81\x80\x01":                     points(0, -8193),
		"\x00\x80\x89\x7a":                     points(0, 1000000),
		"\x00\xff\x88\x7a":                     points(0, -1000000),
		"\x00\x02\x02\x08\x02\x07":             points(0, 1, 2, 5, 4, 1),
		"\x00\x0a\x01\x00\x01\x00":             points(0, 5, 1, 5, 2, 5),
		"\x00\x00\x7f\x02":                     points(0, 0, 127, 1),
		"\x00\x00\x80\x01\x02":                 points(0, 0, 128, 1),
		"\x00\x00\xff\x01\x02":                 points(0, 0, 255, 1),
		"\x00\x00\x80\x02\x02":                 points(0, 0, 256, 1),
		"\x00\x00\xab\x02\x02":                 points(0, 0, 299, 1),
		"\x00\x00\x01\x00\xaa\x02\x02":         points(0, 0, 1, 0, 299, 1),
		"\x00\xff\x88\x7a\x01\x80\x92\xf4\x01": points(0, -1000000, 1, 1000000),
		"\x00\x80\x89\x7a\x01\xff\x91\xf4\x01": points(0, 1000000, 1, -1000000),
	}
}

func TestPointsBytesByHand(t *testing.T) {
	for text, list := range byHand() {
		sameBothWays(t, "by hand", list, text)
	}
	samePointsText(t, "an empty list", []impl.Point{}, "")
}

// TestPointsBytesOfRunes: bytes that make a rune of several bytes are bytes of a number like all others.
func TestPointsBytesOfRunes(t *testing.T) {
	for text, list := range map[string][]impl.Point{
		"\x00\u0082\x01":                 points(0, 8353),                // two bytes: 66, 2
		"\x00\u00c2\x03":                 points(0, -24738),              // two bytes: 67, 2
		"\x00\xff\x88\x7a\x01\u20ac\x01": points(0, -1000000, 1, 409201), // three bytes: 98, 2, 44
		"\x00\x80\x89\x7a\x01\ufffd\x01": points(0, 1000000, 1, -552376), // three bytes: 111, 63, 61
		"\x00\u0082\x01\x01\u00c3\x01":   points(0, 8353, 1, 8353-8418),  // twice two bytes
	} {
		ahead, last := text[:len(text)-1], text[len(text)-1:]
		if _, size := utf8.DecodeLastRuneInString(ahead); size < 2 {
			t.Errorf("%q has no rune of several bytes in the end", text)
		}
		sameBothWays(t, "runes", list, text)
		sameNoPoints(t, "a rune in the end", ahead)
		sameNoPoints(t, "a rune behind all", text+"\u00c2")
		sameNoPoints(t, "runes and a nought", ahead+"\u00c2\u00c2\x00")
		sameNoPoints(t, "a rune too many", ahead+"\u00c2\u00c2"+last)
	}
}

func TestPointsTextWrong(t *testing.T) {
	for what, list := range wrongHistories() {
		samePointsText(t, what, list, "")
	}
}

// plainPointsText takes the numbers' bytes from the library.
func plainPointsText(list []impl.Point) string {
	var data []byte
	var at, value int64
	for _, p := range list {
		data = binary.AppendUvarint(data, uint64(p.At-at))
		data = binary.AppendVarint(data, p.Value-value)
		at, value = p.At, p.Value
	}
	return string(data)
}

// TestPointsBytesManyValues goes through each seventh Value, all that lie about a power of two, and all places.
func TestPointsBytesManyValues(t *testing.T) {
	for value := int64(-impl.MaxFlow); value <= impl.MaxFlow; value += 7 {
		sameBothWays(t, "many values", points(0, value), plainPointsText(points(0, value)))
	}
	for bits := range 21 {
		for _, by := range []int64{-2, -1, 0, 1, 2} {
			step := int64(1)<<bits + by
			for _, list := range [][]impl.Point{
				points(0, step), points(0, -step), points(0, impl.MaxFlow, 1, impl.MaxFlow-step), points(0, -impl.MaxFlow, 5, step-impl.MaxFlow),
			} {
				if impl.PointsRight(list) {
					sameBothWays(t, "about "+decimal(int64(1)<<bits), list, plainPointsText(list))
				}
			}
		}
	}
	for at := int64(1); at < impl.MaxPoints; at++ {
		sameBothWays(t, "all places", points(0, 1, at, 2), plainPointsText(points(0, 1, at, 2)))
	}
}

func TestPointsBytesLimits(t *testing.T) {
	for what, list := range rightHistories() {
		sameBothWays(t, what, list, plainPointsText(list))
	}
	longest := impl.PointsText(eachPlace(300, -impl.MaxFlow, impl.MaxFlow))
	if len(longest) != 4+299*5 || longest[4:] != plainPointsText(eachPlace(300, -impl.MaxFlow, impl.MaxFlow))[4:] {
		t.Errorf("the longest text has %d bytes", len(longest))
	}
	sameNoPoints(t, "one Point too many", longest+"\x01\x02")
}

// number is a number's bytes, with so many more than there need be.
func number(n uint64, more int) string {
	text := string(binary.AppendUvarint(nil, n))
	if more == 0 {
		return text
	}
	last := len(text) - 1
	return text[:last] + string([]byte{text[last] | 128}) + strings.Repeat("\x80", more-1) + "\x00"
}

func TestPointsReadWrong(t *testing.T) {
	for what, text := range map[string]string{
		"a nought alone":                    "\x00",
		"a byte of more alone":              "\x80",
		"a number that does not end":        "\x00\x80",
		"Values that do not end":            "\x00" + strings.Repeat("\xff", 9),
		"a second At that does not end":     "\x00\x02\x81",
		"a second At alone":                 "\x00\x02\x01",
		"a byte behind all":                 "\x00\x02\x02\x08\x02\x07\x00",
		"the first At is one":               "\x01\x02",
		"the first At is the last":          number(299, 0) + "\x02",
		"Ats alike":                         "\x00\x02\x00\x02",
		"an At above the limit":             "\x00\x02" + number(300, 0) + "\x02",
		"a sum of Ats above the limit":      "\x00\x02" + number(150, 0) + "\x02" + number(150, 0) + "\x02",
		"a Value above the limit":           "\x00" + number(2000002, 0),
		"a Value below the limit":           "\x00" + number(2000001, 0),
		"a Value far above the limit":       "\x00" + number(math.MaxUint64-1, 0),
		"a Value far below the limit":       "\x00" + number(math.MaxUint64, 0),
		"a sum of Values above the limit":   "\x00" + number(2000000, 0) + "\x01\x02",
		"a sum of Values below the limit":   "\x00" + number(1999999, 0) + "\x01\x01",
		"an At that goes back":              "\x00\x02\x05\x02" + number(math.MaxUint64, 0) + "\x02",
		"the first At is far off":           number(math.MaxUint64, 0) + "\x02",
		"a text of letters":                 "ab",
		"a line feed behind all":            "\x00\x02\n",
		"digits":                            "0 1",
		"the least int64 there and back":    "\x00\x02" + number(1<<63, 0) + "\x02" + number(1<<63+1, 0) + "\x02",
		"Values out of the limits and back": "\x00" + number(2000002, 0) + "\x01\x01",
	} {
		sameNoPoints(t, what, text)
	}
}

// TestPointsReadTooManyBytes: each number stands in as few bytes as may be.
func TestPointsReadTooManyBytes(t *testing.T) {
	for text, list := range byHand() {
		for more := 1; more < 12; more++ {
			var at, value int64
			for place, p := range list {
				ahead := plainPointsText(list[:place])
				ats, values := uint64(p.At-at), binary.AppendVarint(nil, p.Value-value)
				step, _ := binary.Uvarint(values)
				behind := text[len(ahead)+len(number(ats, 0))+len(values):]
				sameNoPoints(t, "an At of more bytes", ahead+number(ats, more)+string(values)+behind)
				sameNoPoints(t, "a Value of more bytes", ahead+number(ats, 0)+number(step, more)+behind)
				at, value = p.At, p.Value
			}
		}
	}
}

// TestPointsReadTooManyBits: bits that no number has room for do not go unseen.
func TestPointsReadTooManyBits(t *testing.T) {
	for zeros := 1; zeros < 30; zeros++ {
		for last := byte(1); last < 128; last++ {
			above := strings.Repeat("\x80", zeros-1) + string([]byte{last})
			sameNoPoints(t, "an At with bits above", "\x80"+above+"\x02")
			if zeros > 2 {
				sameNoPoints(t, "a Value with bits above", "\x00\x82"+above)
			}
			if zeros > 1 {
				sameNoPoints(t, "a second At with bits above", "\x00\x02\x81"+above+"\x02")
			}
		}
	}
}

func TestPointsReadMaxBytes(t *testing.T) {
	size := impl.PointsOut{Code: impl.ErrSize}
	right := impl.PointsText(tideway())
	for _, of := range []string{"\x00", "\x80", "\xff", "\x01", "a", "\x00\x02", right} {
		text := strings.Repeat(of, impl.MaxBytes)
		sameNoPoints(t, "MaxBytes", text[:impl.MaxBytes])
		samePointsRead(t, "above MaxBytes", text[:impl.MaxBytes]+"\x00", size)
		samePointsRead(t, "twice MaxBytes", text[:impl.MaxBytes]+text[:impl.MaxBytes], size)
	}
	for _, last := range []string{"\x00", "\x02", "\x7f", "\x80"} {
		sameNoPoints(t, "a number of MaxBytes", "\x00"+strings.Repeat("\x80", impl.MaxBytes-2)+last)
		samePointsRead(t, "a number of more", "\x00"+strings.Repeat("\x80", impl.MaxBytes-1)+last, size)
	}
}

// plainPointsRead goes byte by byte, and looks at each number that it is written in few bytes.
func plainPointsRead(text string) impl.PointsOut {
	refused := impl.PointsOut{Code: impl.ErrSyntax}
	var parts [][]byte
	var part []byte
	for i := 0; i < len(text); i++ {
		part = append(part, text[i])
		if text[i] < 128 {
			parts, part = append(parts, part), nil
		}
	}
	if part != nil || len(parts)%2 == 1 {
		return refused
	}
	var list []impl.Point
	var p impl.Point
	for pair := range slices.Chunk(parts, 2) {
		at, value := pair[0], pair[1]
		if len(at) > 9 || len(value) > 9 || len(at) > 1 && at[len(at)-1] == 0 || len(value) > 1 && value[len(value)-1] == 0 {
			return refused
		}
		step, _ := binary.Uvarint(at)
		rise, _ := binary.Varint(value)
		p.At, p.Value = p.At+int64(step), p.Value+rise
		list = append(list, p)
	}
	if !plainPointsRight(list) {
		return refused
	}
	return impl.PointsOut{List: list}
}

// TestPointsReadAllShort goes through all texts of up to two bytes, and of three that begin by a nought.
func TestPointsReadAllShort(t *testing.T) {
	right := map[int]int{}
	read := func(text string) {
		samePointsRead(t, "all short ones", text, plainPointsRead(text))
		if impl.PointsRead(text).Code == impl.OK {
			right[len(text)]++
		}
	}
	read("")
	for first := range 256 {
		read(string([]byte{byte(first)}))
		for second := range 256 {
			read(string([]byte{byte(first), byte(second)}))
			read(string([]byte{0, byte(first), byte(second)}))
		}
	}
	if right[0] != 1 || right[1] != 0 || right[2] != 128 || right[3] != 128*127 {
		t.Errorf("%v texts are right, by how long they are", right)
	}
}

// TestPointsReadTurned turns, takes away and puts in single bytes of right texts: what is read then is another
// history, which has that text.
func TestPointsReadTurned(t *testing.T) {
	random := rand.New(rand.NewSource(233))
	refused, read := 0, 0
	for range 20000 {
		list := anyHistory(random)
		data := []byte(impl.PointsText(list))
		at := random.Intn(len(data))
		switch random.Intn(3) {
		case 0:
			data[at] ^= 1 << random.Intn(8)
		case 1:
			data = slices.Delete(data, at, at+1)
		default:
			data = slices.Insert(data, at, byte(random.Intn(256)))
		}
		got := impl.PointsRead(string(data))
		samePointsRead(t, "turned", string(data), plainPointsRead(string(data)))
		if got.Code == impl.OK {
			read++
			samePointsText(t, "turned", got.List, string(data))
		} else {
			refused++
		}
	}
	if refused < 2000 || read < 2000 {
		t.Errorf("%d refused, %d read: too few to tell", refused, read)
	}
}
