package tests

import (
	"math/rand"
	"slices"
	"testing"

	"loop.example/g00068/impl"
)

func valueEvent(value int64) impl.Event {
	return impl.Event{Kind: impl.EventValue, Value: value}
}

func pollEvent(how int64) impl.Event {
	return impl.Event{Kind: impl.EventPoll, Value: how}
}

// valueEvents are so many, each far from the one ahead of it: the place and 1, times 10.
func valueEvents(count int) []impl.Event {
	var list []impl.Event
	for i := range count {
		list = append(list, valueEvent(int64(i+1)*10))
	}
	return list
}

func linkFault(code int64) impl.LinkOut {
	return impl.LinkOut{Code: code}
}

func sameLinkOut(t *testing.T, what string, got impl.LinkOut, want impl.LinkOut) {
	t.Helper()
	if got.Code != want.Code || !isStation(got.Station, want.Station) || !isMaster(got.Master, want.Master) {
		t.Errorf("%s: got %+v, want %+v", what, got, want)
	}
}

// sameLink calls with events of its own, with room behind them, and tells if these were changed.
func sameLink(t *testing.T, what string, unit int64, band int64, list []impl.Event, want impl.LinkOut) {
	t.Helper()
	what = "LinkRun, " + what
	behind := impl.Event{Kind: -7, Value: -7}
	given := slices.Concat(list, []impl.Event{behind})
	own := given[:len(list)]
	if list == nil {
		own = nil
	}
	sameLinkOut(t, what, impl.LinkRun(unit, band, own), want)
	if !slices.Equal(given[:len(list)], list) || given[len(list)] != behind {
		t.Errorf("%s: the events were changed", what)
	}
}

// logbook has values and polls of each kind, and is told event by event by TestLinkRunByHand.
func logbook() []impl.Event {
	return []impl.Event{
		valueEvent(5), valueEvent(7), valueEvent(9), pollEvent(impl.PollLost), pollEvent(impl.PollUnheard),
		valueEvent(-3), pollEvent(impl.PollUnheard), pollEvent(impl.PollGood), pollEvent(impl.PollGood),
		valueEvent(-1), valueEvent(0), pollEvent(impl.PollLost), valueEvent(50), pollEvent(impl.PollGood),
	}
}

func TestLinkRunByHand(t *testing.T) {
	station := func(last int64, next int64, wait ...int64) impl.Station {
		return impl.Station{Unit: 7, Band: 2, Seen: next > 1, Last: last, Next: next, Wait: notes(wait...)}
	}
	master := func(seqsAndValues ...int64) impl.Master {
		return impl.Master{Seq: int64(len(seqsAndValues) / 2), Notes: notes(seqsAndValues...)}
	}
	behind := []impl.LinkOut{
		{Station: station(0, 1)},
		{Station: station(5, 2, 1, 5)},
		{Station: station(5, 2, 1, 5)},
		{Station: station(9, 3, 1, 5, 2, 9)},
		{Station: station(9, 3, 1, 5, 2, 9)},
		{Station: station(9, 3, 1, 5, 2, 9), Master: master(1, 5, 2, 9)},
		{Station: station(-3, 4, 1, 5, 2, 9, 3, -3), Master: master(1, 5, 2, 9)},
		{Station: station(-3, 4, 1, 5, 2, 9, 3, -3), Master: master(1, 5, 2, 9, 3, -3)},
		{Station: station(-3, 4), Master: master(1, 5, 2, 9, 3, -3)},
		{Station: station(-3, 4), Master: master(1, 5, 2, 9, 3, -3)},
		{Station: station(-3, 4), Master: master(1, 5, 2, 9, 3, -3)},
		{Station: station(0, 5, 4, 0), Master: master(1, 5, 2, 9, 3, -3)},
		{Station: station(0, 5, 4, 0), Master: master(1, 5, 2, 9, 3, -3)},
		{Station: station(50, 6, 4, 0, 5, 50), Master: master(1, 5, 2, 9, 3, -3)},
		{Station: station(50, 6), Master: master(1, 5, 2, 9, 3, -3, 4, 0, 5, 50)},
	}
	for count, want := range behind {
		sameLink(t, "behind "+decimal(int64(count)), 7, 2, logbook()[:count], want)
	}
}

func TestLinkRunEdges(t *testing.T) {
	most := int64(impl.MaxFlow)
	for _, unit := range []int64{0, 126, 250} {
		for _, band := range []int64{0, 1, most} {
			fresh := impl.LinkOut{Station: freshStation(unit, band)}
			sameLink(t, "none, nil", unit, band, nil, fresh)
			sameLink(t, "none", unit, band, []impl.Event{}, fresh)
			for how := int64(impl.PollGood); how <= impl.PollLost; how++ {
				sameLink(t, "a poll of nothing", unit, band, []impl.Event{pollEvent(how)}, fresh)
			}
			for _, value := range []int64{-most, -1, 0, 1, most} {
				one := impl.LinkOut{Station: noted(fresh.Station, value)}
				sameLink(t, "a value", unit, band, []impl.Event{valueEvent(value)}, one)
				sameLink(t, "a value twice", unit, band, []impl.Event{valueEvent(value), valueEvent(value)}, one)
				polled := impl.LinkOut{Station: waiting(one.Station, nil), Master: impl.Master{Seq: 1, Notes: notes(1, value)}}
				sameLink(t, "a value polled", unit, band, []impl.Event{valueEvent(value), pollEvent(impl.PollGood)}, polled)
				unheard := impl.LinkOut{Station: one.Station, Master: polled.Master}
				sameLink(t, "a value unheard", unit, band, []impl.Event{valueEvent(value), pollEvent(impl.PollUnheard)}, unheard)
				sameLink(t, "a value lost", unit, band, []impl.Event{valueEvent(value), pollEvent(impl.PollLost)}, one)
			}
		}
	}
}

// TestLinkRunDrops: more notes than can wait come between two polls.
func TestLinkRunDrops(t *testing.T) {
	tens := func(first int64, last int64) []impl.Note {
		var list []impl.Note
		for seq := first; seq <= last; seq++ {
			list = append(list, impl.Note{Seq: seq, Value: seq * 10})
		}
		return list
	}
	station := func(last int64, drops int64, wait []impl.Note) impl.Station {
		return impl.Station{Unit: 9, Band: 9, Seen: true, Last: last * 10, Next: last + 1, Wait: wait, Drops: drops}
	}
	good, unheard := pollEvent(impl.PollGood), pollEvent(impl.PollUnheard)
	sameLink(t, "as many as can wait", 9, 9, valueEvents(40), impl.LinkOut{Station: station(40, 0, tens(1, 40))})
	sameLink(t, "one more", 9, 9, valueEvents(41), impl.LinkOut{Station: station(41, 1, tens(2, 41))})
	sameLink(t, "as many as can be", 9, 9, valueEvents(200), impl.LinkOut{Station: station(200, 160, tens(161, 200))})
	sameLink(t, "one dropped, polled", 9, 9, append(valueEvents(41), good),
		impl.LinkOut{Station: station(41, 1, nil), Master: impl.Master{Seq: 41, Notes: tens(2, 41), Gaps: 1}})
	sameLink(t, "many dropped, polled", 9, 9, append(valueEvents(199), good),
		impl.LinkOut{Station: station(199, 159, nil), Master: impl.Master{Seq: 199, Notes: tens(160, 199), Gaps: 159}})
	// What was dropped behind an unheard poll is missed by nobody.
	kept := slices.Insert(valueEvents(41), 40, unheard)
	sameLink(t, "one dropped that was taken", 9, 9, append(kept, good),
		impl.LinkOut{Station: station(41, 1, nil), Master: impl.Master{Seq: 41, Notes: tens(1, 41)}})
}

func TestLinkRunMaxEvents(t *testing.T) {
	list := slices.Repeat([]impl.Event{valueEvent(1), pollEvent(impl.PollGood), valueEvent(2), pollEvent(impl.PollGood)}, 50)
	out := impl.LinkRun(7, 0, list)
	if out.Code != impl.OK || len(out.Master.Notes) != 100 || out.Master.Seq != 100 || out.Master.Gaps != 0 || len(out.Station.Wait) != 0 {
		t.Errorf("LinkRun of MaxEvents events: got %+v", out)
	}
	size := linkFault(impl.ErrSize)
	more := append(slices.Clone(list), valueEvent(1))
	sameLink(t, "one event too many", 7, 0, more, size)
	sameLink(t, "one poll too many", 7, 0, append(slices.Clone(list), pollEvent(impl.PollLost)), size)
	sameLink(t, "one too many, all wrong", -1, -1, make([]impl.Event, impl.MaxEvents+1), size)
	sameLink(t, "MaxList", 7, 0, slices.Repeat([]impl.Event{valueEvent(1)}, impl.MaxList), size)
	sameLink(t, "more than MaxList", 7, 0, slices.Repeat([]impl.Event{valueEvent(1)}, impl.MaxList+1), size)
	sameLink(t, "MaxEvents, all wrong", 7, 0, make([]impl.Event, impl.MaxEvents), linkFault(impl.ErrForm))
	for what, unit := range beside(0, 250) {
		sameLink(t, "one too many, a unit "+what, unit, 0, more, size)
	}
	for what, band := range beside(0, impl.MaxFlow) {
		sameLink(t, "one too many, a band "+what, 7, band, more, size)
	}
}

// wrongEvents are refused wherever they stand.
func wrongEvents() map[string]impl.Event {
	wrong := map[string]impl.Event{
		"none":                    {},
		"Kind 0, a value":         {Value: 5},
		"both wrong":              {Kind: 3, Value: 5000000},
		"a poll of MaxFlow":       pollEvent(impl.MaxFlow),
		"a poll of minus MaxFlow": pollEvent(-impl.MaxFlow),
	}
	for what, n := range beside(impl.EventValue, impl.EventPoll) {
		for _, value := range []int64{0, 1, 2} {
			wrong["Kind is "+what+", Value "+decimal(value)] = impl.Event{Kind: n, Value: value}
		}
	}
	for what, n := range beside(-impl.MaxFlow, impl.MaxFlow) {
		wrong["a value that is "+what] = valueEvent(n)
	}
	for what, n := range beside(impl.PollGood, impl.PollLost) {
		wrong["a poll that is "+what] = pollEvent(n)
	}
	return wrong
}

func TestLinkRunWrong(t *testing.T) {
	form := linkFault(impl.ErrForm)
	for what, e := range wrongEvents() {
		sameLink(t, what+", alone", 7, 2, []impl.Event{e}, form)
		for place := range len(logbook()) + 1 {
			sameLink(t, what+" at "+decimal(int64(place)), 7, 2, slices.Insert(logbook(), place, e), form)
		}
		full := valueEvents(impl.MaxEvents)
		full[impl.MaxEvents-1] = e
		sameLink(t, what+", the last of MaxEvents", 7, 2, full, form)
	}
	for what, n := range beside(0, 250) {
		sameLink(t, "a unit "+what, n, 2, logbook(), form)
		sameLink(t, "a unit of no events "+what, n, 2, nil, form)
	}
	for what, n := range beside(0, impl.MaxFlow) {
		sameLink(t, "a band "+what, 7, n, logbook(), form)
		sameLink(t, "a band of no events "+what, 7, n, nil, form)
		sameLink(t, "all wrong, a band "+what, -1, n, []impl.Event{{}}, form)
	}
}

// ledger reckons a link by places in the list of all values that were noted: those from first on wait, and
// the master has some of those ahead of taken.
type ledger struct {
	noted []int64
	first int
	drops int64
	has   []int
	taken int
}

func (l *ledger) value(value int64, band int64) {
	if count := len(l.noted); count > 0 && plainAbs(value-l.noted[count-1]) <= band {
		return
	}
	l.noted = append(l.noted, value)
	if len(l.noted)-l.first > impl.MaxWait {
		l.first++
		l.drops++
	}
}

func (l *ledger) poll(how int64) {
	if how == impl.PollLost {
		return
	}
	for place := max(l.first, l.taken); place < len(l.noted); place++ {
		l.has = append(l.has, place)
		l.taken = place + 1
	}
	if how == impl.PollGood {
		l.first = max(l.first, l.taken)
	}
}

func (l *ledger) note(place int) impl.Note {
	return impl.Note{Seq: int64(place + 1), Value: l.noted[place]}
}

func (l *ledger) meet(e impl.Event, band int64) {
	if e.Kind == impl.EventValue {
		l.value(e.Value, band)
	} else {
		l.poll(e.Value)
	}
}

func (l *ledger) told(unit int64, band int64) impl.LinkOut {
	out := impl.LinkOut{Station: freshStation(unit, band)}
	for place := l.first; place < len(l.noted); place++ {
		out.Station.Wait = append(out.Station.Wait, l.note(place))
	}
	if count := len(l.noted); count > 0 {
		out.Station.Seen, out.Station.Last = true, l.noted[count-1]
		out.Station.Next = int64(count + 1)
	}
	out.Station.Drops = l.drops
	for _, place := range l.has {
		out.Master.Notes = append(out.Master.Notes, l.note(place))
	}
	out.Master.Seq = int64(l.taken)
	out.Master.Gaps = int64(l.taken - len(l.has))
	return out
}

func plainLink(unit int64, band int64, list []impl.Event) impl.LinkOut {
	l := &ledger{}
	for _, e := range list {
		l.meet(e, band)
	}
	return l.told(unit, band)
}

// anyEvents have few or many polls, so that often more notes come than can wait.
func anyEvents(random *rand.Rand, most int) []impl.Event {
	list := make([]impl.Event, random.Intn(most+1))
	seldom := []int{2, 5, 60}[random.Intn(3)]
	cuts := 1 + random.Intn(3)
	for i := range list {
		list[i] = valueEvent(anyValue(random))
		if random.Intn(seldom) == 0 {
			list[i] = pollEvent(int64(random.Intn(cuts)))
			if random.Intn(3) == 0 {
				list[i] = pollEvent(impl.PollLost)
			}
		}
	}
	return list
}

func anyBand(random *rand.Rand) int64 {
	return []int64{0, 0, 1, 3, impl.MaxFlow}[random.Intn(5)]
}

func TestLinkRunAny(t *testing.T) {
	random := rand.New(rand.NewSource(193))
	drops, gaps := 0, 0
	for range 3000 {
		unit, band, list := random.Int63n(251), anyBand(random), anyEvents(random, impl.MaxEvents)
		want := plainLink(unit, band, list)
		if want.Station.Drops > 0 {
			drops++
		}
		if want.Master.Gaps > 0 {
			gaps++
		}
		sameLink(t, "any", unit, band, list, want)
		if t.Failed() {
			t.Fatalf("of %d, %d and %+v", unit, band, list)
		}
	}
	if drops < 300 || gaps < 200 {
		t.Errorf("%d with drops, %d with gaps: too few to tell", drops, gaps)
	}
}

// TestLinkRunIsItsCalls goes event by event by the calls of stations and masters.
func TestLinkRunIsItsCalls(t *testing.T) {
	random := rand.New(rand.NewSource(194))
	for range 500 {
		unit, band, list := random.Int63n(251), anyBand(random), anyEvents(random, impl.MaxEvents)
		s, m := freshStation(unit, band), impl.Master{}
		for _, e := range list {
			switch {
			case e.Kind == impl.EventValue:
				s = impl.StationNote(s, e.Value)
			case e.Value == impl.PollGood:
				m = impl.MasterTake(m, unit, impl.StationSend(s))
				s = impl.StationHeard(s, m.Seq)
			case e.Value == impl.PollUnheard:
				m = impl.MasterTake(m, unit, impl.StationSend(s))
			}
		}
		sameLink(t, "by its calls", unit, band, list, impl.LinkOut{Station: s, Master: m})
		if t.Failed() {
			t.Fatalf("of %d, %d and %+v", unit, band, list)
		}
	}
}

// TestLinkRunKeepsNothing: runs beside and behind one another tell the same, and share no memory.
func TestLinkRunKeepsNothing(t *testing.T) {
	list := append(logbook(), valueEvent(80), pollEvent(impl.PollUnheard))
	want := plainLink(7, 2, list)
	outs := make(chan impl.LinkOut)
	for range 8 {
		go func() { outs <- impl.LinkRun(7, 2, list) }()
	}
	for range 8 {
		out := <-outs
		sameLinkOut(t, "beside others", out, want)
		spoilNotes(out.Station.Wait)
		sameMaster(t, "behind spoilt notes that wait", out.Master, want.Master)
		spoilNotes(out.Master.Notes)
	}
	sameLink(t, "once more", 7, 2, list, want)
}
