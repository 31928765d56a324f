package tests

import (
	"math/rand"
	"slices"
	"testing"

	"loop.example/g00068/impl"
)

// onceInOrder: do the Seqs of notes rise, up to the master's own, and are those that are not there its Gaps?
func onceInOrder(m impl.Master) bool {
	ahead := int64(0)
	for _, n := range m.Notes {
		if n.Seq <= ahead {
			return false
		}
		ahead = n.Seq
	}
	return ahead == m.Seq && m.Gaps == m.Seq-int64(len(m.Notes))
}

// TestPromise33OnceInOrder: behind each event the master has what it had, and more notes only behind that; each
// of them is one that the station noted.
func TestPromise33OnceInOrder(t *testing.T) {
	random := rand.New(rand.NewSource(195))
	for range 60 {
		band, list := anyBand(random), anyEvents(random, impl.MaxEvents)
		var had []impl.Note
		values := map[int64]int64{}
		for count := range len(list) + 1 {
			out := impl.LinkRun(7, band, list[:count])
			for _, n := range out.Station.Wait {
				if value, known := values[n.Seq]; known && value != n.Value {
					t.Fatalf("%+v: the note %d turned from %d", list[:count], n, value)
				}
				values[n.Seq] = n.Value
			}
			for _, n := range out.Master.Notes {
				if value, known := values[n.Seq]; !known || value != n.Value {
					t.Fatalf("%+v: the master has %+v, which was not noted", list[:count], n)
				}
			}
			if out.Code != impl.OK || !onceInOrder(out.Master) || !impl.StationRight(out.Station) {
				t.Fatalf("%+v: got %+v", list[:count], out)
			}
			if len(out.Master.Notes) < len(had) || !slices.Equal(out.Master.Notes[:len(had)], had) {
				t.Fatalf("%+v: the master had %+v, and has %+v", list[:count], had, out.Master.Notes)
			}
			had = out.Master.Notes
		}
	}
}

// droppedBy are the Seqs that went out of Wait without being heard.
func droppedBy(band int64, list []impl.Event) map[int64]bool {
	dropped := map[int64]bool{}
	for count, e := range list {
		ahead, behind := impl.LinkRun(7, band, list[:count]).Station, impl.LinkRun(7, band, list[:count+1]).Station
		for _, n := range ahead.Wait {
			if e.Kind == impl.EventValue && !slices.Contains(behind.Wait, n) {
				dropped[n.Seq] = true
			}
		}
	}
	return dropped
}

// TestPromise33AllInTheEnd: behind a last good poll the master has each note but those that were dropped.
func TestPromise33AllInTheEnd(t *testing.T) {
	random := rand.New(rand.NewSource(196))
	missed := 0
	for range 60 {
		band, list := anyBand(random), append(anyEvents(random, impl.MaxEvents-1), pollEvent(impl.PollGood))
		out := impl.LinkRun(7, band, list)
		dropped := droppedBy(band, list)
		has := map[int64]bool{}
		for _, n := range out.Master.Notes {
			has[n.Seq] = true
		}
		for seq := int64(1); seq < out.Station.Next; seq++ {
			if !has[seq] && !dropped[seq] {
				t.Fatalf("%+v: the note %d was not dropped, and the master has %+v", list, seq, out.Master)
			}
			if !has[seq] {
				missed++
			}
		}
		if len(out.Station.Wait) != 0 || int64(len(dropped)) != out.Station.Drops || out.Master.Seq != out.Station.Next-1 || out.Master.Gaps > out.Station.Drops {
			t.Fatalf("%+v: got %+v, dropped %v", list, out, dropped)
		}
	}
	if missed < 50 {
		t.Errorf("%d missed: too few to tell", missed)
	}
}

// TestPromise33WithoutDrops: where a good poll comes in time, cuts cost nothing.
func TestPromise33WithoutDrops(t *testing.T) {
	random := rand.New(rand.NewSource(197))
	for range 300 {
		var list []impl.Event
		var want []impl.Note
		for len(list) < impl.MaxEvents-1 {
			room := impl.MaxEvents - 1 - len(list)
			for range min(room, random.Intn(impl.MaxWait)) {
				value := int64(len(list))
				list = append(list, valueEvent(value))
				want = append(want, impl.Note{Seq: int64(len(want) + 1), Value: value})
				room--
			}
			for range min(room, random.Intn(3)) {
				list = append(list, pollEvent(1+random.Int63n(2)))
				room--
			}
			if room > 0 {
				list = append(list, pollEvent(impl.PollGood))
			}
		}
		list = append(list, pollEvent(impl.PollGood))
		out := impl.LinkRun(7, 0, list)
		if !slices.Equal(out.Master.Notes, want) || out.Master.Gaps != 0 || out.Station.Drops != 0 || len(out.Station.Wait) != 0 {
			t.Fatalf("%+v: got %+v, want the notes %+v", list, out, want)
		}
	}
}

// TestPromise33CutTexts: of an answer that is cut off anywhere what came is taken, the rest waits, and the next
// answer brings it.
func TestPromise33CutTexts(t *testing.T) {
	s := outpost()
	text := impl.StationSend(s)
	for cut := range len(text) + 1 {
		m := impl.MasterTake(impl.Master{Seq: 2}, 7, text[:cut])
		left := impl.StationHeard(s, m.Seq)
		if !slices.Equal(slices.Concat(m.Notes, left.Wait), s.Wait) {
			t.Fatalf("cut at %d: taken %+v, left %+v", cut, m.Notes, left.Wait)
		}
		for _, next := range []string{impl.StationSend(left), text} {
			end := impl.MasterTake(m, 7, next)
			if !slices.Equal(end.Notes, s.Wait) || end.Seq != 8 || end.Gaps != 3 {
				t.Fatalf("cut at %d, then whole: got %+v", cut, end)
			}
		}
	}
}

// TestPromise33SpoiltTexts: whatever comes, the master has no note twice, none out of order, and none that was not sent.
func TestPromise33SpoiltTexts(t *testing.T) {
	random := rand.New(rand.NewSource(198))
	for range 500 {
		s, m := freshStation(7, 0), impl.Master{}
		values := map[int64]int64{}
		for range 20 {
			for range random.Intn(12) {
				s = impl.StationNote(s, anyValue(random))
			}
			for _, n := range s.Wait {
				values[n.Seq] = n.Value
			}
			text := []byte(impl.StationSend(s))
			if len(text) > 0 {
				text[random.Intn(len(text))] ^= byte(1 + random.Intn(255))
				text = slices.Concat(text[random.Intn(len(text)):], text, text[:random.Intn(len(text))])
			}
			m = impl.MasterTake(m, 7, string(text))
			for _, n := range m.Notes {
				if value, known := values[n.Seq]; !known || value != n.Value {
					t.Fatalf("the master has %+v, which was not noted", n)
				}
			}
			if !onceInOrder(m) {
				t.Fatalf("got %+v", m)
			}
			if random.Intn(2) == 0 {
				s = impl.StationHeard(s, m.Seq)
			}
		}
	}
}
