package tests

import (
	"math"
	"math/rand"
	"slices"
	"testing"

	"loop.example/g00068/impl"
)

// notes are given as Seqs and Values by turns.
func notes(seqsAndValues ...int64) []impl.Note {
	var list []impl.Note
	for pair := range slices.Chunk(seqsAndValues, 2) {
		list = append(list, impl.Note{Seq: pair[0], Value: pair[1]})
	}
	return list
}

// noteRun are so many notes from a Seq on, each with its Seq as its Value.
func noteRun(first int64, count int) []impl.Note {
	var list []impl.Note
	for seq := first; seq < first+int64(count); seq++ {
		list = append(list, impl.Note{Seq: seq, Value: seq})
	}
	return list
}

// outpost has notes that wait, with a gap between them, and has dropped some.
func outpost() impl.Station {
	return impl.Station{Unit: 7, Band: 10, Seen: true, Last: -40, Next: 9, Wait: notes(3, 55, 4, -8, 8, -40), Drops: 2}
}

func freshStation(unit int64, band int64) impl.Station {
	return impl.Station{Unit: unit, Band: band, Next: 1}
}

// fullStation has MaxWait notes, the last of them of the Seq ahead of next.
func fullStation(next int64) impl.Station {
	return impl.Station{Unit: 1, Seen: true, Last: next - 1, Next: next, Wait: noteRun(next-impl.MaxWait, impl.MaxWait)}
}

func changedStation(s impl.Station, change func(s *impl.Station)) impl.Station {
	s.Wait = slices.Clone(s.Wait)
	change(&s)
	return s
}

func isStation(a impl.Station, b impl.Station) bool {
	return a.Unit == b.Unit && a.Band == b.Band && a.Seen == b.Seen && a.Last == b.Last && a.Next == b.Next &&
		a.Drops == b.Drops && slices.Equal(a.Wait, b.Wait)
}

func sameStation(t *testing.T, what string, got impl.Station, want impl.Station) {
	t.Helper()
	if !isStation(got, want) {
		t.Errorf("%s: got %+v, want %+v", what, got, want)
	}
}

// roomyNotes have a note behind them that is not theirs; a nil list has none.
func roomyNotes(list []impl.Note) []impl.Note {
	if list == nil {
		return nil
	}
	return append(slices.Clone(list), impl.Note{Seq: -7, Value: -7})[:len(list)]
}

func keptNotes(own []impl.Note, list []impl.Note) bool {
	if own == nil {
		return list == nil
	}
	return slices.Equal(own, list) && own[:len(own)+1][len(own)] == impl.Note{Seq: -7, Value: -7}
}

func spoilNotes(list []impl.Note) {
	for i := range list {
		list[i] = impl.Note{Seq: -9, Value: -9}
	}
}

// watchedStation calls with a station of its own, and tells if it was changed.
func watchedStation(t *testing.T, what string, s impl.Station, call func(s impl.Station)) {
	t.Helper()
	own := s
	own.Wait = roomyNotes(s.Wait)
	call(own)
	if !keptNotes(own.Wait, s.Wait) {
		t.Errorf("%s: the notes that wait were changed", what)
	}
}

// wrongStations are right but for what their names say.
func wrongStations() map[string]impl.Station {
	wrong := map[string]impl.Station{"none": {}}
	add := func(what string, change func(s *impl.Station)) {
		wrong[what] = changedStation(outpost(), change)
	}
	for what, n := range beside(0, 250) {
		add("Unit is "+what, func(s *impl.Station) { s.Unit = n })
	}
	for what, n := range beside(0, impl.MaxFlow) {
		add("Band is "+what, func(s *impl.Station) { s.Band = n })
	}
	for what, n := range beside(-impl.MaxFlow, impl.MaxFlow) {
		add("Last is "+what, func(s *impl.Station) { s.Last = n })
		for place := range outpost().Wait {
			add("the Value at "+decimal(int64(place))+" is "+what, func(s *impl.Station) { s.Wait[place].Value = n })
		}
	}
	for what, n := range beside(1, impl.MaxSeq) {
		add("Next is "+what, func(s *impl.Station) { s.Next = n })
		add("Next is "+what+", nothing waits", func(s *impl.Station) { s.Next, s.Wait = n, nil })
	}
	for what, n := range beside(0, impl.MaxSeq) {
		add("Drops are "+what, func(s *impl.Station) { s.Drops = n })
	}
	for what, n := range beside(1, 8) {
		for place := range outpost().Wait {
			add("the Seq at "+decimal(int64(place))+" is "+what, func(s *impl.Station) { s.Wait[place].Seq = n })
		}
	}
	add("nothing Seen, but Last", func(s *impl.Station) { s.Seen = false })
	add("nothing Seen, Last is 1", func(s *impl.Station) { s.Seen, s.Last = false, 1 })
	add("two Seqs alike", func(s *impl.Station) { s.Wait[0].Seq = 4 })
	add("the last two Seqs alike", func(s *impl.Station) { s.Wait[2].Seq = 4 })
	add("Seqs that fall", func(s *impl.Station) { s.Wait[0].Seq = 5 })
	add("a Seq of nought alone", func(s *impl.Station) { s.Wait = notes(0, 1) })
	add("the Seq Next alone", func(s *impl.Station) { s.Wait = notes(9, 1) })
	add("one note too many", func(s *impl.Station) { s.Next, s.Wait = 100, noteRun(1, impl.MaxWait+1) })
	add("MaxList notes", func(s *impl.Station) { s.Next, s.Wait = 1000, noteRun(1, impl.MaxList) })
	add("more than MaxList notes", func(s *impl.Station) { s.Next, s.Wait = 1000, noteRun(1, impl.MaxList+1) })
	return wrong
}

// rightStations are at the limits, or of little.
func rightStations() map[string]impl.Station {
	right := map[string]impl.Station{
		"an outpost":             outpost(),
		"a fresh one":            freshStation(0, 0),
		"a fresh one at most":    freshStation(250, impl.MaxFlow),
		"a full one":             fullStation(41),
		"a full one, one behind": fullStation(42),
		"a full one at MaxSeq":   fullStation(impl.MaxSeq),
		"at MaxSeq, nothing":     {Next: impl.MaxSeq},
		"of all Values":          {Seen: true, Next: 4, Wait: notes(1, impl.MaxFlow, 2, -impl.MaxFlow, 3, 0)},
		"alike Values":           {Seen: true, Next: 4, Wait: notes(1, 5, 2, 5, 3, 5)},
		"all that may be":        {Unit: 250, Band: impl.MaxFlow, Seen: true, Last: impl.MaxFlow, Next: impl.MaxSeq, Wait: notes(1, 1), Drops: impl.MaxSeq},
	}
	add := func(what string, change func(s *impl.Station)) {
		right[what] = changedStation(outpost(), change)
	}
	add("Last at its least", func(s *impl.Station) { s.Last = -impl.MaxFlow })
	add("Last at its most", func(s *impl.Station) { s.Last = impl.MaxFlow })
	add("nothing Seen, notes wait", func(s *impl.Station) { s.Seen, s.Last = false, 0 })
	add("Seen, Last nought", func(s *impl.Station) { s.Last = 0 })
	add("nothing waits", func(s *impl.Station) { s.Wait = nil })
	add("an empty list waits", func(s *impl.Station) { s.Wait = []impl.Note{} })
	add("Next far on", func(s *impl.Station) { s.Next = impl.MaxSeq })
	add("the last Seq ahead of Next", func(s *impl.Station) { s.Wait = notes(impl.MaxSeq-1, 1); s.Next = impl.MaxSeq })
	return right
}

func TestStationRight(t *testing.T) {
	for what, s := range rightStations() {
		watchedStation(t, what, s, func(s impl.Station) {
			if !impl.StationRight(s) {
				t.Errorf("StationRight, %s: got false of %+v", what, s)
			}
		})
	}
	for what, s := range wrongStations() {
		watchedStation(t, what, s, func(s impl.Station) {
			if impl.StationRight(s) {
				t.Errorf("StationRight, %s: got true of %+v", what, s)
			}
		})
	}
}

// sameBehind spoils what is told, so that notes which it shared with those handed in would be changed.
func sameBehind(t *testing.T, what string, s impl.Station, call func(s impl.Station) impl.Station, want impl.Station) {
	t.Helper()
	watchedStation(t, what, s, func(s impl.Station) {
		got := call(s)
		sameStation(t, what, got, want)
		spoilNotes(got.Wait[:cap(got.Wait)])
	})
}

func sameNoted(t *testing.T, what string, s impl.Station, value int64, want impl.Station) {
	t.Helper()
	sameBehind(t, "StationNote, "+what, s, func(s impl.Station) impl.Station { return impl.StationNote(s, value) }, want)
}

// noted is a station behind a value, if there is room for its note.
func noted(s impl.Station, value int64) impl.Station {
	return changedStation(s, func(s *impl.Station) {
		s.Wait = append(s.Wait, impl.Note{Seq: s.Next, Value: value})
		s.Seen, s.Last, s.Next = true, value, s.Next+1
	})
}

func TestStationNoteByHand(t *testing.T) {
	first := impl.Station{Unit: 7, Band: 2, Seen: true, Last: 5, Next: 2, Wait: notes(1, 5)}
	sameNoted(t, "the first", freshStation(7, 2), 5, first)
	sameNoted(t, "one within Band", first, 6, first)
	sameNoted(t, "one beyond it", first, 9, impl.Station{Unit: 7, Band: 2, Seen: true, Last: 9, Next: 3, Wait: notes(1, 5, 2, 9)})
	behind := impl.Station{Unit: 7, Band: 10, Seen: true, Last: 100, Next: 10, Wait: notes(3, 55, 4, -8, 8, -40, 9, 100), Drops: 2}
	sameNoted(t, "behind others", outpost(), 100, behind)
	none := changedStation(outpost(), func(s *impl.Station) { s.Wait = nil })
	sameNoted(t, "where nothing waits", none, 100, changedStation(behind, func(s *impl.Station) { s.Wait = notes(9, 100) }))
	sameNoted(t, "the first nought", freshStation(0, 100), 0, impl.Station{Band: 100, Seen: true, Next: 2, Wait: notes(1, 0)})
}

// TestStationNoteBand goes around the edges of Bands; a value just Band away is not noted.
func TestStationNoteBand(t *testing.T) {
	most := int64(impl.MaxFlow)
	for _, band := range []int64{0, 1, 7, most - 1, most} {
		for _, last := range []int64{-most, -most + 1, -1, 0, 1, 500, most} {
			s := changedStation(outpost(), func(s *impl.Station) { s.Band, s.Last = band, last })
			for _, away := range []int64{-2 * most, -band - 1, -band, -band + 1, -1, 0, 1, band - 1, band, band + 1, 2 * most} {
				value, want := last+away, s
				if away < -band || away > band {
					want = noted(s, value)
				}
				if value < -most || value > most {
					want = s
				}
				sameNoted(t, decimal(band)+" wide, from "+decimal(last)+" to "+decimal(value), s, value, want)
			}
		}
	}
}

func TestStationNoteFirstIsNoted(t *testing.T) {
	for _, value := range []int64{-impl.MaxFlow, -1, 0, 1, impl.MaxFlow} {
		for _, band := range []int64{0, 1, impl.MaxFlow} {
			s := freshStation(250, band)
			sameNoted(t, "first is "+decimal(value), s, value, noted(s, value))
			waits := changedStation(outpost(), func(s *impl.Station) { s.Seen, s.Last, s.Band = false, 0, band })
			sameNoted(t, "first Seen is "+decimal(value), waits, value, noted(waits, value))
		}
	}
}

func TestStationNoteDrops(t *testing.T) {
	almost := changedStation(fullStation(50), func(s *impl.Station) { s.Wait = s.Wait[1:] })
	sameNoted(t, "the last that fits", almost, 900, noted(almost, 900))
	for _, drops := range []int64{0, 1, impl.MaxSeq - 1, impl.MaxSeq} {
		full := changedStation(fullStation(50), func(s *impl.Station) { s.Drops = drops })
		want := noted(full, 900)
		want.Wait, want.Drops = want.Wait[1:], drops+1
		sameNoted(t, "one too many, Drops "+decimal(drops), full, 900, want)
		sameNoted(t, "a full one, nothing to note", full, full.Last, full)
	}
	gappy := changedStation(fullStation(50), func(s *impl.Station) { s.Wait[0].Seq = 2 })
	want := noted(gappy, -900)
	want.Wait, want.Drops = want.Wait[1:], 1
	sameNoted(t, "the first goes, whatever its Seq", gappy, -900, want)
}

func TestStationNoteAtMaxSeq(t *testing.T) {
	last := changedStation(outpost(), func(s *impl.Station) { s.Next = impl.MaxSeq - 1 })
	behind := noted(last, 100)
	if behind.Next != impl.MaxSeq {
		t.Fatalf("Next is %d", behind.Next)
	}
	sameNoted(t, "the last Seq", last, 100, behind)
	sameNoted(t, "no Seq left", behind, 900, behind)
	sameNoted(t, "no Seq left, fresh", impl.Station{Next: impl.MaxSeq}, 1, impl.Station{Next: impl.MaxSeq})
	sameNoted(t, "no Seq left, full", fullStation(impl.MaxSeq), 1, fullStation(impl.MaxSeq))
	full := fullStation(impl.MaxSeq - 1)
	want := noted(full, 1)
	want.Wait, want.Drops = want.Wait[1:], 1
	sameNoted(t, "the last Seq, full", full, 1, want)
}

func TestStationNoteWrong(t *testing.T) {
	for what, s := range wrongStations() {
		sameNoted(t, what, s, 900, s)
		sameNoted(t, what+", and the value", s, math.MinInt64, s)
	}
	for what, value := range beside(-impl.MaxFlow, impl.MaxFlow) {
		for which, s := range rightStations() {
			sameNoted(t, which+", a value "+what, s, value, s)
		}
	}
}

func sameHeard(t *testing.T, what string, s impl.Station, seq int64, want impl.Station) {
	t.Helper()
	sameBehind(t, "StationHeard, "+what, s, func(s impl.Station) impl.Station { return impl.StationHeard(s, seq) }, want)
}

func waiting(s impl.Station, wait []impl.Note) impl.Station {
	s.Wait = wait
	return s
}

func TestStationHeardByHand(t *testing.T) {
	for seq, left := range map[int64][]impl.Note{
		math.MinInt64: notes(3, 55, 4, -8, 8, -40),
		-1:            notes(3, 55, 4, -8, 8, -40),
		0:             notes(3, 55, 4, -8, 8, -40),
		2:             notes(3, 55, 4, -8, 8, -40),
		3:             notes(4, -8, 8, -40),
		4:             notes(8, -40),
		5:             notes(8, -40),
		7:             notes(8, -40),
		8:             nil,
		9:             nil,
		65535:         nil,
		math.MaxInt64: nil,
	} {
		sameHeard(t, "up to "+decimal(seq), outpost(), seq, waiting(outpost(), left))
		sameHeard(t, "up to "+decimal(seq)+", of none", waiting(outpost(), nil), seq, waiting(outpost(), nil))
	}
	full := fullStation(impl.MaxSeq)
	for seq := int64(impl.MaxSeq - 50); seq < impl.MaxSeq+5; seq++ {
		gone := min(max(seq-(impl.MaxSeq-41), 0), impl.MaxWait)
		sameHeard(t, "of a full one, up to "+decimal(seq), full, seq, waiting(full, full.Wait[gone:]))
	}
}

func TestStationHeardWrong(t *testing.T) {
	for what, s := range wrongStations() {
		for _, seq := range []int64{math.MinInt64, 0, 3, math.MaxInt64} {
			sameHeard(t, what+", up to "+decimal(seq), s, seq, s)
		}
	}
}

// anyStation is right; often it is full, or has no Seq left.
func anyStation(random *rand.Rand) impl.Station {
	s := freshStation(random.Int63n(251), anyNumber(random, []int64{3, impl.MaxFlow}[random.Intn(2)]))
	s.Drops = anyNumber(random, impl.MaxSeq)
	count := []int{random.Intn(5), random.Intn(impl.MaxWait + 1), impl.MaxWait}[random.Intn(3)]
	for range count {
		s.Next += random.Int63n(3)
		s.Wait = append(s.Wait, impl.Note{Seq: s.Next, Value: anyValue(random)})
		s.Next++
	}
	if random.Intn(4) > 0 {
		s.Seen, s.Last = true, anyValue(random)
	}
	if random.Intn(8) == 0 {
		s.Next = impl.MaxSeq
	}
	return s
}

// anyValue is often a small one, so that Bands hold some of them.
func anyValue(random *rand.Rand) int64 {
	most := []int64{4, 4, impl.MaxFlow}[random.Intn(3)]
	return anyNumber(random, most) - anyNumber(random, most)
}

// plainNoted tells by the words of chapter 20, one by one.
func plainNoted(s impl.Station, value int64) impl.Station {
	if s.Next == impl.MaxSeq || s.Seen && plainAbs(value-s.Last) <= s.Band {
		return s
	}
	out := noted(s, value)
	if len(out.Wait) == impl.MaxWait+1 {
		out.Wait = out.Wait[1:]
		out.Drops++
	}
	return out
}

func TestStationAny(t *testing.T) {
	random := rand.New(rand.NewSource(190))
	dropped, held := 0, 0
	for range 5000 {
		s, value, seq := anyStation(random), anyValue(random), random.Int63n(120)-10
		want := plainNoted(s, value)
		if want.Drops > s.Drops {
			dropped++
		}
		if want.Next == s.Next {
			held++
		}
		sameNoted(t, "any", s, value, want)
		var left []impl.Note
		for _, n := range s.Wait {
			if n.Seq > seq {
				left = append(left, n)
			}
		}
		sameHeard(t, "any", s, seq, waiting(s, left))
		if !impl.StationRight(s) || t.Failed() {
			t.Fatalf("of %+v by %d and %d", s, value, seq)
		}
	}
	if dropped < 500 || held < 500 {
		t.Errorf("%d drops, %d held: too few to tell", dropped, held)
	}
}

// TestStationIsNew: what is told does not change with what was handed in, nor that with what is told.
func TestStationIsNew(t *testing.T) {
	calls := map[string]func(s impl.Station) impl.Station{
		"a note":               func(s impl.Station) impl.Station { return impl.StationNote(s, 900) },
		"a value that is held": func(s impl.Station) impl.Station { return impl.StationNote(s, s.Last) },
		"a value that is none": func(s impl.Station) impl.Station { return impl.StationNote(s, math.MaxInt64) },
		"some heard":           func(s impl.Station) impl.Station { return impl.StationHeard(s, 3) },
		"nothing heard":        func(s impl.Station) impl.Station { return impl.StationHeard(s, 0) },
	}
	for what, call := range calls {
		for _, s := range []impl.Station{
			outpost(), fullStation(50), fullStation(impl.MaxSeq),
			changedStation(outpost(), func(s *impl.Station) { s.Unit = -1 }),
		} {
			own := changedStation(s, func(s *impl.Station) { s.Wait = slices.Grow(s.Wait, 50) })
			first := call(own)
			want := changedStation(first, func(*impl.Station) {})
			spoilNotes(own.Wait[:cap(own.Wait)])
			sameStation(t, what+", behind spoilt notes", first, want)
			spoilNotes(first.Wait)
			sameStation(t, what+", once more", call(s), want)
		}
	}
}
