package tests

import (
	"math"
	"math/rand"
	"slices"
	"strings"
	"testing"

	"loop.example/g00068/impl"
)

// watch is a master that has notes, and missed some.
func watch() impl.Master {
	return impl.Master{Seq: 5, Notes: notes(1, 10, 2, -20, 5, 50), Gaps: 2}
}

func changedMaster(m impl.Master, change func(m *impl.Master)) impl.Master {
	m.Notes = slices.Clone(m.Notes)
	change(&m)
	return m
}

// having is a master behind more notes.
func having(m impl.Master, seq int64, gaps int64, more ...impl.Note) impl.Master {
	return impl.Master{Seq: seq, Notes: slices.Concat(m.Notes, more), Gaps: gaps}
}

func isMaster(a impl.Master, b impl.Master) bool {
	return a.Seq == b.Seq && a.Gaps == b.Gaps && slices.Equal(a.Notes, b.Notes)
}

func sameMaster(t *testing.T, what string, got impl.Master, want impl.Master) {
	t.Helper()
	if !isMaster(got, want) {
		t.Errorf("%s: got %+v, want %+v", what, got, want)
	}
}

// sameTaken calls with a master of its own, and tells if it was changed, or is changed by what is told.
func sameTaken(t *testing.T, what string, m impl.Master, unit int64, text string, want impl.Master) {
	t.Helper()
	what = "MasterTake, " + what
	own := m
	own.Notes = roomyNotes(m.Notes)
	got := impl.MasterTake(own, unit, text)
	sameMaster(t, what, got, want)
	spoilNotes(got.Notes[:cap(got.Notes)])
	if !keptNotes(own.Notes, m.Notes) {
		t.Errorf("%s: the master's notes were changed", what)
	}
}

// noteFrame is a frame as a station of the unit 7 sends it.
func noteFrame(seq int64, value int64) impl.Frame {
	return frame(7, 3, seq, decimal(value))
}

func TestMasterTakeByHand(t *testing.T) {
	six, seven, nine := noteFrame(6, 60), noteFrame(7, -70), noteFrame(9, 0)
	for _, c := range []struct {
		what   string
		frames []impl.Frame
		want   impl.Master
	}{
		{"nothing", nil, watch()},
		{"the next one", []impl.Frame{six}, having(watch(), 6, 2, notes(6, 60)...)},
		{"two", []impl.Frame{six, seven}, having(watch(), 7, 2, notes(6, 60, 7, -70)...)},
		{"one missed", []impl.Frame{seven}, having(watch(), 7, 3, notes(7, -70)...)},
		{"three missed", []impl.Frame{nine}, having(watch(), 9, 5, notes(9, 0)...)},
		{"one missed between", []impl.Frame{six, seven, nine}, having(watch(), 9, 3, notes(6, 60, 7, -70, 9, 0)...)},
		{"twice", []impl.Frame{six, six}, having(watch(), 6, 2, notes(6, 60)...)},
		{"two twice", []impl.Frame{six, seven, six, seven}, having(watch(), 7, 2, notes(6, 60, 7, -70)...)},
		{"twice, another Value", []impl.Frame{six, noteFrame(6, 61)}, having(watch(), 6, 2, notes(6, 60)...)},
		{"in the wrong order", []impl.Frame{seven, six}, having(watch(), 7, 3, notes(7, -70)...)},
		{"what it has", []impl.Frame{noteFrame(1, 10), noteFrame(2, -20), noteFrame(5, 50)}, watch()},
		{"what it missed", []impl.Frame{noteFrame(3, 30), noteFrame(4, 40)}, watch()},
		{"what it has and the next one", []impl.Frame{noteFrame(5, 50), six}, having(watch(), 6, 2, notes(6, 60)...)},
		{"the Seq nought", []impl.Frame{noteFrame(0, 1)}, watch()},
		{"another unit", []impl.Frame{frame(8, 3, 6, "60"), seven}, having(watch(), 7, 3, notes(7, -70)...)},
		{"another unit alone", []impl.Frame{frame(6, 3, 6, "60"), frame(0, 3, 7, "70")}, watch()},
		{"another kind", []impl.Frame{frame(7, 2, 6, "60"), frame(7, 4, 7, "70"), nine}, having(watch(), 9, 5, notes(9, 0)...)},
		{"no number between", []impl.Frame{six, frame(7, 3, 7, "x"), nine}, having(watch(), 9, 4, notes(6, 60, 9, 0)...)},
	} {
		sameTaken(t, c.what, watch(), 7, textOf(c.frames...), c.want)
	}
}

func TestMasterTakeFresh(t *testing.T) {
	one := noteFrame(1, 4)
	sameTaken(t, "nothing, by a new one", impl.Master{}, 7, "", impl.Master{})
	sameTaken(t, "the first", impl.Master{}, 7, textOf(one), impl.Master{Seq: 1, Notes: notes(1, 4)})
	sameTaken(t, "an empty list", impl.Master{Notes: []impl.Note{}}, 7, textOf(one, one), impl.Master{Seq: 1, Notes: notes(1, 4)})
	sameTaken(t, "the Seq nought", impl.Master{}, 7, textOf(noteFrame(0, 4)), impl.Master{})
	sameTaken(t, "some missed", impl.Master{}, 7, textOf(noteFrame(4, 4)), impl.Master{Seq: 4, Notes: notes(4, 4), Gaps: 3})
	sameTaken(t, "the last Seq", impl.Master{}, 7, textOf(noteFrame(65535, 4)), impl.Master{Seq: 65535, Notes: notes(65535, 4), Gaps: 65534})
}

// TestMasterTakeLostBytes: what is no frame stands between frames, or cuts one off.
func TestMasterTakeLostBytes(t *testing.T) {
	a, b := textOf(noteFrame(6, 60)), textOf(noteFrame(7, -70))
	both := having(watch(), 7, 2, notes(6, 60, 7, -70)...)
	turned := []byte(a)
	turned[7] ^= 1
	for _, c := range []struct {
		what string
		text string
		want impl.Master
	}{
		{"bytes ahead", "xyz" + a + b, both},
		{"bytes between", a + "\x00\xff" + b, both},
		{"bytes behind", a + b + "zz", both},
		{"a mark behind", a + b + "~", both},
		{"the last cut off", a + b[:len(b)-1], having(watch(), 6, 2, notes(6, 60)...)},
		{"the first cut off", a[1:] + b, having(watch(), 7, 3, notes(7, -70)...)},
		{"a turned byte", string(turned) + b, having(watch(), 7, 3, notes(7, -70)...)},
		{"bytes alone", "\x00\xff~", watch()},
		{"a head that asks for more", "~\x07\x03\x00\x06\x40" + a + b, watch()},
	} {
		sameTaken(t, c.what, watch(), 7, c.text, c.want)
	}
}

func TestMasterTakeBodies(t *testing.T) {
	most := int64(impl.MaxFlow)
	for _, value := range []int64{0, 1, -1, 9, 10, -10, 99, 100, 999999, -999999, most, -most} {
		sameTaken(t, "a number: "+decimal(value), watch(), 7, textOf(frame(7, 3, 6, decimal(value))), having(watch(), 6, 2, notes(6, value)...))
	}
	for _, body := range []string{
		"", "-", "+", "+1", "-0", "+0", "00", "01", "-01", "007", " 1", "1 ", "1\n", "\n1", "1.0", "1.", ".1", "1e3", "0x1", "0b1", "1_0", "--1", "- 1",
		"1-", "1000001", "-1000001", "10000000", "0001000000", "9223372036854775807", "-9223372036854775808", "9223372036854775808",
		"18446744073709551616", "18446744073709551617", strings.Repeat("9", 64), strings.Repeat("0", 63) + "1", "x", "1x", "x1", "1\x00", "\x00", "\xff", "\xef\xbc\x91", "\xd9\xa1",
		"1/2", "1,000", "inf", "nan", "1 2",
	} {
		sameTaken(t, "no number: "+body, watch(), 7, textOf(frame(7, 3, 6, body)), watch())
		sameTaken(t, "no number ahead of one: "+body, watch(), 7, textOf(frame(7, 3, 6, body), noteFrame(6, 60)), having(watch(), 6, 2, notes(6, 60)...))
	}
}

func TestMasterTakeUnitsAndKinds(t *testing.T) {
	for _, unit := range []int64{0, 1, 125, 126, 127, 249, 250} {
		for kind := int64(1); kind <= 9; kind++ {
			text := textOf(frame(unit, kind, 6, "60"))
			want := watch()
			if kind == 3 {
				want = having(watch(), 6, 2, notes(6, 60)...)
			}
			sameTaken(t, "unit "+decimal(unit)+", kind "+decimal(kind), watch(), unit, text, want)
			for what, n := range map[string]int64{"one more": unit + 1, "one less": unit - 1, "a byte more": unit + 256, "a byte less": unit - 256} {
				sameTaken(t, "unit "+decimal(unit)+", "+what, watch(), n, text, watch())
			}
		}
	}
	for what, unit := range beside(0, 250) {
		sameTaken(t, "a unit "+what, watch(), unit, textOf(noteFrame(6, 60)), watch())
	}
}

// crowded is a master with so many notes, of which the last one's Seq is its own.
func crowded(count int) impl.Master {
	return impl.Master{Seq: int64(count), Notes: noteRun(1, count)}
}

func TestMasterTakeMaxEvents(t *testing.T) {
	a, b := noteFrame(201, 5), noteFrame(209, 6)
	almost := crowded(impl.MaxEvents - 1)
	full := crowded(impl.MaxEvents)
	sameTaken(t, "the last that fits", almost, 7, textOf(a), having(almost, 201, 1, notes(201, 5)...))
	sameTaken(t, "one too many", almost, 7, textOf(a, b), having(almost, 201, 1, notes(201, 5)...))
	sameTaken(t, "a full one", full, 7, textOf(a, b), full)
	sameTaken(t, "a full one, nothing new", full, 7, textOf(noteFrame(1, 1)), full)
	sameTaken(t, "one beyond", crowded(impl.MaxEvents+1), 7, textOf(noteFrame(300, 1)), crowded(impl.MaxEvents+1))
	text := ""
	for seq := int64(1); seq <= impl.MaxEvents+5; seq++ {
		text += textOf(noteFrame(seq, seq))
	}
	sameTaken(t, "all at once", impl.Master{}, 7, text, full)
}

func TestMasterTakeGreatSeqs(t *testing.T) {
	last := changedMaster(watch(), func(m *impl.Master) { m.Seq = 65534 })
	sameTaken(t, "the last Seq", last, 7, textOf(noteFrame(65535, 1)), having(last, 65535, 2, notes(65535, 1)...))
	beyond := changedMaster(watch(), func(m *impl.Master) { m.Seq = 65535 })
	sameTaken(t, "no Seq left", beyond, 7, textOf(noteFrame(65535, 1), noteFrame(6, 1)), beyond)
	sameTaken(t, "a Seq above those of stations", watch(), 7, textOf(noteFrame(60001, 1)), having(watch(), 60001, 59997, notes(60001, 1)...))
	for _, gaps := range []int64{impl.MaxWater - 3, impl.MaxWater} {
		m := changedMaster(watch(), func(m *impl.Master) { m.Gaps = gaps })
		sameTaken(t, "Gaps "+decimal(gaps)+", none more", m, 7, textOf(noteFrame(6, 60)), having(m, 6, gaps, notes(6, 60)...))
		sameTaken(t, "Gaps "+decimal(gaps)+", three more", m, 7, textOf(noteFrame(9, 60)), having(m, 9, gaps+3, notes(9, 60)...))
	}
}

// wrongMasters are right but for what their names say.
func wrongMasters() map[string]impl.Master {
	wrong := map[string]impl.Master{
		"one note too many":       crowded(impl.MaxEvents + 1),
		"MaxList notes":           crowded(impl.MaxList),
		"more than MaxList notes": crowded(impl.MaxList + 1),
	}
	for what, n := range beside(0, 65535) {
		wrong["Seq is "+what] = changedMaster(watch(), func(m *impl.Master) { m.Seq = n })
	}
	for what, n := range beside(0, impl.MaxWater) {
		wrong["Gaps are "+what] = changedMaster(watch(), func(m *impl.Master) { m.Gaps = n })
	}
	return wrong
}

func TestMasterTakeWrong(t *testing.T) {
	text := textOf(noteFrame(1, 1), noteFrame(6, 6), noteFrame(500, 7), noteFrame(65535, 8))
	for what, m := range wrongMasters() {
		sameTaken(t, what, m, 7, text, m)
		sameTaken(t, what+", nothing to take", m, 7, "", m)
		sameTaken(t, what+", and too long a text", m, 7, text+strings.Repeat("x", impl.MaxBytes), m)
	}
}

// TestMasterTakeOddNotes: what a master has is not asked for anything but how much it is.
func TestMasterTakeOddNotes(t *testing.T) {
	odd := impl.Master{Seq: 5, Notes: notes(9, math.MinInt64, -3, math.MaxInt64, 9, 0)}
	sameTaken(t, "odd notes", odd, 7, textOf(noteFrame(6, 60)), having(odd, 6, 0, notes(6, 60)...))
}

func TestMasterTakeMaxBytes(t *testing.T) {
	a := textOf(noteFrame(6, 60))
	want := having(watch(), 6, 2, notes(6, 60)...)
	fill := strings.Repeat("x", impl.MaxBytes-len(a))
	sameTaken(t, "MaxBytes, a note ahead", watch(), 7, a+fill, want)
	sameTaken(t, "MaxBytes, a note behind", watch(), 7, fill+a, want)
	sameTaken(t, "one byte more ahead", watch(), 7, a+fill+"x", watch())
	sameTaken(t, "one byte more behind", watch(), 7, "x"+fill+a, watch())
	sameTaken(t, "twice MaxBytes", watch(), 7, strings.Repeat(a, 4000), watch())
	many := strings.Repeat(textOf(noteFrame(1, 1)), impl.MaxBytes/9)
	sameTaken(t, "as many frames as can be", impl.Master{}, 7, many, impl.Master{Seq: 1, Notes: notes(1, 1)})
}

// plainTaken goes by FrameRead from the left, and asks each frame one thing behind the other.
func plainTaken(m impl.Master, unit int64, text string) impl.Master {
	out := having(m, m.Seq, m.Gaps)
	for _, f := range plainFrames(text).Frames {
		if f.Unit != unit || f.Kind != 3 || f.Seq <= out.Seq || len(out.Notes) == impl.MaxEvents {
			continue
		}
		value, found := int64(0), false
		for n := int64(-50); n <= 50; n++ {
			if decimal(n) == f.Body {
				value, found = n, true
			}
		}
		if found {
			out.Gaps += f.Seq - out.Seq - 1
			out.Seq = f.Seq
			out.Notes = append(out.Notes, impl.Note{Seq: f.Seq, Value: value})
		}
	}
	return out
}

// anyStream has frames in about a rising order, of units and kinds alike or not, some of them spoilt.
func anyStream(random *rand.Rand, from int64) string {
	text := ""
	for range random.Intn(30) {
		from = max(0, from+random.Int63n(5)-1)
		body := decimal(random.Int63n(101) - 50)
		if random.Intn(8) == 0 {
			body = []string{"", "-0", "+1", "01", "x"}[random.Intn(5)]
		}
		kind := 3 + int64(max(0, random.Intn(8)-6))
		piece := textOf(frame(7+int64(max(0, random.Intn(8)-6)), kind, from, body))
		if random.Intn(8) == 0 {
			piece = piece[random.Intn(len(piece)):]
		}
		text += piece
	}
	return text
}

func TestMasterTakeAny(t *testing.T) {
	random := rand.New(rand.NewSource(192))
	took := 0
	for range 3000 {
		m := crowded([]int{random.Intn(9), impl.MaxEvents - random.Intn(9)}[random.Intn(2)])
		m.Seq, m.Gaps = max(0, m.Seq+random.Int63n(9)-4), anyNumber(random, impl.MaxWater)
		text := anyStream(random, m.Seq)
		want := plainTaken(m, 7, text)
		took += len(want.Notes) - len(m.Notes)
		sameTaken(t, "any", m, 7, text, want)
		if t.Failed() {
			t.Fatalf("of %+v by %q", m, text)
		}
	}
	if took < 5000 {
		t.Errorf("%d notes taken: too few to tell", took)
	}
}

func TestMasterTakeIsNew(t *testing.T) {
	for what, text := range map[string]string{
		"a note":          textOf(noteFrame(6, 60)),
		"nothing":         "",
		"too long a text": strings.Repeat("x", impl.MaxBytes+1),
	} {
		for _, m := range []impl.Master{watch(), crowded(impl.MaxEvents + 1)} {
			own := changedMaster(m, func(m *impl.Master) { m.Notes = slices.Grow(m.Notes, 50) })
			first := impl.MasterTake(own, 7, text)
			want := changedMaster(first, func(*impl.Master) {})
			spoilNotes(own.Notes[:cap(own.Notes)])
			sameMaster(t, what+", behind spoilt notes", first, want)
			spoilNotes(first.Notes)
			sameMaster(t, what+", once more", impl.MasterTake(m, 7, text), want)
		}
	}
}
