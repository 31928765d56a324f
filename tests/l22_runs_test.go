package tests

import (
	"math/rand"
	"slices"
	"testing"

	"loop.example/g00068/impl"
)

// valueActs take the values, one after the other.
func valueActs(values ...int64) []impl.Act {
	var list []impl.Act
	for _, value := range values {
		list = append(list, valueAct(value))
	}
	return list
}

// rings are given as Ats and States by turns.
func rings(atsAndStates ...int64) []impl.Ring {
	var list []impl.Ring
	for pair := range slices.Chunk(atsAndStates, 2) {
		list = append(list, impl.Ring{At: pair[0], State: pair[1]})
	}
	return list
}

func alarmFault(code int64) impl.AlarmOut {
	return impl.AlarmOut{Code: code}
}

func sameAlarmOut(t *testing.T, what string, got impl.AlarmOut, want impl.AlarmOut) {
	t.Helper()
	if got.Code != want.Code || got.Alarm != want.Alarm || !slices.Equal(got.Rings, want.Rings) {
		t.Errorf("%s: got %+v, want %+v", what, got, want)
	}
}

// sameAlarmRun calls with acts of its own, with room behind them, and tells if these were changed. What is
// told is written over, so that the next answer would show what is kept.
func sameAlarmRun(t *testing.T, what string, a impl.Alarm, list []impl.Act, want impl.AlarmOut) {
	t.Helper()
	what = "AlarmRun, " + what
	mark := impl.Act{Kind: -7, Value: -7}
	own := roomyOf(list, mark)
	for range 2 {
		got := impl.AlarmRun(a, own)
		sameAlarmOut(t, what, got, want)
		for i := range got.Rings {
			got.Rings[i] = impl.Ring{At: -9, State: -9}
		}
	}
	if !keptOf(own, list, mark) {
		t.Errorf("%s: the acts were changed", what)
	}
}

// shift has turns of all kinds, and is told act by act by TestAlarmRunByHand.
func shift() []impl.Act {
	return []impl.Act{
		valueAct(11), valueAct(12), valueAct(10), valueAct(11), valueAct(11), valueAct(11), // raised by the last one
		valueAct(5), seeAct(), valueAct(20), valueAct(4), // seen, and at rest
		valueAct(11), shelveAct(2), valueAct(11), valueAct(11), valueAct(11), valueAct(11), seeAct(), valueAct(11), // raised
		valueAct(4), valueAct(11), valueAct(11), valueAct(11), // gone, and raised once more
		shelveAct(1), valueAct(0), valueAct(0), seeAct(), // gone behind what is put off, and at rest
	}
}

func TestAlarmRunByHand(t *testing.T) {
	const rest, raised, seen, gone = impl.AlarmRest, impl.AlarmRaised, impl.AlarmSeen, impl.AlarmGone
	behind := []impl.Alarm{
		bellAt(rest, 0), bellAt(rest, 1), bellAt(rest, 2), bellAt(rest, 0), bellAt(rest, 1), bellAt(rest, 2), bellAt(raised, 0),
		bellAt(raised, 0), bellAt(seen, 0), bellAt(seen, 0), bellAt(rest, 0),
		bellAt(rest, 1), hushed(bellAt(rest, 1), 2), hushed(bellAt(rest, 0), 1), bellAt(rest, 0), bellAt(rest, 1), bellAt(rest, 2), bellAt(rest, 2), bellAt(raised, 0),
		bellAt(gone, 0), bellAt(gone, 1), bellAt(gone, 2), bellAt(raised, 0),
		hushed(bellAt(raised, 0), 1), bellAt(raised, 0), bellAt(gone, 0), bellAt(rest, 0),
	}
	turns := rings(5, raised, 7, seen, 9, rest, 17, raised, 18, gone, 21, raised, 24, gone, 25, rest)
	for count, a := range behind {
		want := impl.AlarmOut{Alarm: a}
		for _, r := range turns {
			if r.At < int64(count) {
				want.Rings = append(want.Rings, r)
			}
		}
		sameAlarmRun(t, "behind "+decimal(int64(count)), bell(), shift()[:count], want)
	}
}

func TestAlarmRunEdges(t *testing.T) {
	for what, a := range rightAlarms() {
		sameAlarmRun(t, what+", no acts", a, nil, impl.AlarmOut{Alarm: a})
		sameAlarmRun(t, what+", an empty list", a, []impl.Act{}, impl.AlarmOut{Alarm: a})
		sameAlarmRun(t, what+", shelved too long", a, []impl.Act{shelveAct(1001), shelveAct(-1)}, impl.AlarmOut{Alarm: a})
	}
	quick := changedAlarm(bell(), func(a *impl.Alarm) { a.Delay = 0 })
	up := changedAlarm(quick, func(a *impl.Alarm) { a.State = impl.AlarmRaised })
	sameAlarmRun(t, "the first act", quick, valueActs(11), impl.AlarmOut{Alarm: up, Rings: rings(0, 2)})
	sameAlarmRun(t, "each act", quick, []impl.Act{valueAct(11), seeAct(), valueAct(4), valueAct(11), valueAct(4), valueAct(11), valueAct(4), seeAct()},
		impl.AlarmOut{Alarm: quick, Rings: rings(0, 2, 1, 3, 2, 1, 3, 2, 4, 4, 5, 2, 6, 4, 7, 1)})
	sameAlarmRun(t, "from raised", bellAt(2, 0), valueActs(4), impl.AlarmOut{Alarm: bellAt(4, 0), Rings: rings(0, 4)})
	sameAlarmRun(t, "from seen", bellAt(3, 0), valueActs(5, 4), impl.AlarmOut{Alarm: bellAt(1, 0), Rings: rings(1, 1)})
	sameAlarmRun(t, "from gone", bellAt(4, 2), []impl.Act{seeAct(), valueAct(11)}, impl.AlarmOut{Alarm: bellAt(2, 0), Rings: rings(0, 1, 1, 2)})
	sameAlarmRun(t, "all put off", hushed(bell(), 3), valueActs(11, 11, 11), impl.AlarmOut{Alarm: bell()})
}

// TestAlarmRunMaxValues: as many acts as may be, and one more, which is told ahead of all that is wrong.
func TestAlarmRunMaxValues(t *testing.T) {
	quick := changedAlarm(bell(), func(a *impl.Alarm) { a.Delay = 0 })
	list := slices.Repeat([]impl.Act{valueAct(11), seeAct(), valueAct(4)}, 100)
	var turns []impl.Ring
	for at := range int64(impl.MaxValues) {
		turns = append(turns, impl.Ring{At: at, State: []int64{2, 3, 1}[at%3]})
	}
	sameAlarmRun(t, "MaxValues acts", quick, list, impl.AlarmOut{Alarm: quick, Rings: turns})
	if !impl.RingsOk(turns) {
		t.Errorf("RingsOk of MaxValues rings: got false")
	}
	size := alarmFault(impl.ErrSize)
	sameAlarmRun(t, "one act too many", quick, append(slices.Clone(list), valueAct(7)), size)
	sameAlarmRun(t, "one too many, all wrong", impl.Alarm{}, make([]impl.Act, impl.MaxValues+1), size)
	sameAlarmRun(t, "MaxValues, all wrong", quick, make([]impl.Act, impl.MaxValues), alarmFault(impl.ErrForm))
	for _, count := range []int{impl.MaxValues + 1, impl.MaxList, impl.MaxList + 1, 5000} {
		many := slices.Repeat([]impl.Act{valueAct(7)}, count)
		sameAlarmRun(t, decimal(int64(count))+" acts", bell(), many, size)
		for what, a := range wrongAlarms() {
			sameAlarmRun(t, decimal(int64(count))+" acts, "+what, a, many, size)
		}
		for what, act := range wrongActs() {
			many[count-1] = act
			sameAlarmRun(t, decimal(int64(count))+" acts, the last one: "+what, bell(), many, size)
		}
	}
}

func TestAlarmRunWrong(t *testing.T) {
	form := alarmFault(impl.ErrForm)
	for what, act := range wrongActs() {
		sameAlarmRun(t, what+", alone", bell(), []impl.Act{act}, form)
		for place := range len(shift()) + 1 {
			sameAlarmRun(t, what+" at "+decimal(int64(place)), bell(), slices.Insert(shift(), place, act), form)
		}
		full := slices.Repeat([]impl.Act{valueAct(11)}, impl.MaxValues)
		full[impl.MaxValues-1] = act
		sameAlarmRun(t, what+", the last of MaxValues", bell(), full, form)
	}
	for what, a := range wrongAlarms() {
		sameAlarmRun(t, what+", no acts", a, nil, form)
		sameAlarmRun(t, what, a, shift(), form)
		sameAlarmRun(t, what+", a wrong act", a, []impl.Act{{}}, form)
	}
}

func anyActs(random *rand.Rand, a impl.Alarm, most int) []impl.Act {
	list := make([]impl.Act, random.Intn(most+1))
	for i := range list {
		list[i] = anyAct(random, a)
		if i > 0 && random.Intn(3) > 0 && list[i].Kind == impl.ActValue {
			list[i] = list[i-1]
		}
	}
	return list
}

// actByAct is what a run comes to, if each act is done by itself.
func actByAct(a impl.Alarm, list []impl.Act, do func(a impl.Alarm, act impl.Act) impl.Alarm) impl.AlarmOut {
	out := impl.AlarmOut{Alarm: a}
	for at, act := range list {
		behind := do(out.Alarm, act)
		if behind.State != out.Alarm.State {
			out.Rings = append(out.Rings, impl.Ring{At: int64(at), State: behind.State})
		}
		out.Alarm = behind
	}
	return out
}

func TestAlarmRunOfAny(t *testing.T) {
	random := rand.New(rand.NewSource(220))
	turns := map[int64]int{}
	for range 3000 {
		a := anyAlarm(random)
		list := anyActs(random, a, []int{5, 30, impl.MaxValues}[random.Intn(3)])
		want := actByAct(a, list, plainAct)
		sameAlarmRun(t, "any", a, list, want)
		for _, r := range want.Rings {
			turns[r.State]++
		}
		if t.Failed() {
			t.Fatalf("of %+v by %+v", a, list)
		}
	}
	for state := int64(1); state <= 4; state++ {
		if turns[state] < 500 {
			t.Errorf("%v: too few turns to tell", turns)
		}
	}
}
