package tests

import (
	"math/rand"
	"slices"
	"strings"
	"testing"

	"loop.example/g00068/impl"
)

// sameFirst calls with alarms and values of its own, with room behind them, and tells if these were changed.
func sameFirst(t *testing.T, what string, list []impl.Alarm, values [][]int64, want int64) {
	t.Helper()
	what = "FirstOut, " + what
	mark := impl.Alarm{High: -7}
	own := roomyOf(list, mark)
	var ownValues [][]int64
	for _, of := range values {
		ownValues = append(ownValues, roomyOf(of, -7))
	}
	for range 2 {
		if got := impl.FirstOut(own, ownValues); got != want {
			t.Errorf("%s: got %d, want %d", what, got, want)
		}
	}
	if !keptOf(own, list, mark) {
		t.Errorf("%s: the alarms were changed", what)
	}
	for i, of := range values {
		if !keptOf(ownValues[i], of, -7) {
			t.Errorf("%s: the values were changed", what)
		}
	}
}

// quickBell is raised by each value above 10.
func quickBell() impl.Alarm {
	return changedAlarm(bell(), func(a *impl.Alarm) { a.Delay = 0 })
}

func manyAlarms(a impl.Alarm, count int) []impl.Alarm {
	return slices.Repeat([]impl.Alarm{a}, count)
}

func TestFirstOutByHand(t *testing.T) {
	one, two, three := manyAlarms(quickBell(), 1), manyAlarms(quickBell(), 2), manyAlarms(quickBell(), 3)
	sameFirst(t, "none", nil, nil, -1)
	sameFirst(t, "empty lists", []impl.Alarm{}, [][]int64{}, -1)
	sameFirst(t, "no values, nil", one, [][]int64{nil}, -1)
	sameFirst(t, "no values", one, [][]int64{{}}, -1)
	sameFirst(t, "one, at High", one, [][]int64{{10}}, -1)
	sameFirst(t, "one, above High", one, [][]int64{{11}}, 0)
	sameFirst(t, "the second one is ahead", two, [][]int64{{0, 11}, {11, 0}}, 1)
	sameFirst(t, "both at once", two, [][]int64{{0, 11}, {0, 11}}, 0)
	sameFirst(t, "both at once, not the first one of three", three, [][]int64{{0, 0, 11}, {0, 11}, {0, 11}}, 1)
	sameFirst(t, "the last one", three, [][]int64{{0, 0}, {}, {0, 0, 0, 11}}, 2)
	sameFirst(t, "a short list ahead of a long one", two, [][]int64{{0, 0, 11}, {0, 0, 0, 11}}, 0)
	sameFirst(t, "a short list behind a long one", two, [][]int64{{0, 0, 0, 11}, {0, 0, 11}}, 1)
	sameFirst(t, "the first one is raised more often", two, [][]int64{{0, 11, 4, 11, 4, 11}, {11, 11, 11, 11}}, 1)
	sameFirst(t, "no list for the first one", two, [][]int64{nil, {11}}, 1)
	slow := []impl.Alarm{bell(), quickBell()}
	sameFirst(t, "a Delay", slow, [][]int64{{11, 11, 11, 11}, {0, 0, 0, 11}}, 0)
	sameFirst(t, "a Delay, both at once", slow, [][]int64{{11, 11, 11}, {0, 0, 11}}, 0)
	sameFirst(t, "a Delay, too late", slow, [][]int64{{11, 11, 11}, {0, 11}}, 1)
	sameFirst(t, "a Delay, broken off", slow, [][]int64{{11, 11, 10, 11, 11}, {0, 0, 0, 0, 0, 0, 11}}, 1)
	sameFirst(t, "a Delay, never long enough", slow[:1], [][]int64{{11, 11, 10, 11, 11}}, -1)
}

// TestFirstOutStates: what is raised or seen already is not raised by a value ahead of having gone.
func TestFirstOutStates(t *testing.T) {
	loud := []int64{11, 11, 11, 11}
	for state, want := range map[int64]int64{1: 0, 2: 1, 3: 1, 4: 0} {
		sameFirst(t, "State "+decimal(state), []impl.Alarm{bellAt(state, 0), bell()}, [][]int64{loud, loud}, want)
		if want == 1 {
			sameFirst(t, "alone, State "+decimal(state), []impl.Alarm{bellAt(state, 0)}, [][]int64{loud}, -1)
		}
		again := []int64{4, 11, 11, 11}
		sameFirst(t, "again, State "+decimal(state), []impl.Alarm{bellAt(state, 0)}, [][]int64{again}, 0)
		sameFirst(t, "not again, State "+decimal(state), []impl.Alarm{bellAt(state, 0)}, [][]int64{again[:3]}, -1)
		sameFirst(t, "again, but second, State "+decimal(state), []impl.Alarm{bellAt(state, 0), quickBell()}, [][]int64{again, {0, 0, 11}}, 1)
	}
	sameFirst(t, "counted ahead", []impl.Alarm{quickBell(), bellAt(1, 2)}, [][]int64{{0, 11}, {11}}, 1)
	sameFirst(t, "counted one ahead", []impl.Alarm{bell(), bellAt(4, 1)}, [][]int64{{11, 11, 11}, {11, 11}}, 1)
	sameFirst(t, "put off", []impl.Alarm{hushed(quickBell(), 2), quickBell()}, [][]int64{{11, 11, 11}, {0, 11}}, 1)
	sameFirst(t, "put off no longer", []impl.Alarm{hushed(quickBell(), 2), quickBell()}, [][]int64{{11, 11, 11}, {0, 0, 11}}, 0)
	sameFirst(t, "put off for all", manyAlarms(hushed(quickBell(), 1000), 2), [][]int64{numbers(11, 300), numbers(11, 300)}, -1)
}

func TestFirstOutLimits(t *testing.T) {
	most := impl.MaxValues
	last := append(numbers(0, most-1), 11)
	calm := slices.Repeat([][]int64{numbers(0, most)}, 20)
	sameFirst(t, "as many as may be, none raised", manyAlarms(quickBell(), 20), calm, -1)
	for place := range 20 {
		values := slices.Clone(calm)
		values[place] = last
		sameFirst(t, "the last value at "+decimal(int64(place)), manyAlarms(quickBell(), 20), values, int64(place))
	}
	sameFirst(t, "the longest Delay", []impl.Alarm{{High: 10, Delay: 100, State: 1}}, [][]int64{numbers(11, 101)}, 0)
	sameFirst(t, "the longest Delay, one less", []impl.Alarm{{High: 10, Delay: 100, State: 1}}, [][]int64{numbers(11, 100)}, -1)
	sameFirst(t, "one alarm too many", manyAlarms(quickBell(), 21), slices.Repeat([][]int64{{11}}, 21), -1)
	sameFirst(t, "MaxList alarms", manyAlarms(quickBell(), impl.MaxList), slices.Repeat([][]int64{{11}}, impl.MaxList), -1)
	sameFirst(t, "one value too many", manyAlarms(quickBell(), 1), [][]int64{numbers(11, most+1)}, -1)
	sameFirst(t, "one value too many behind a raised one", manyAlarms(quickBell(), 2), [][]int64{{11}, numbers(0, most+1)}, -1)
	sameFirst(t, "more than MaxList values in one list", manyAlarms(quickBell(), 2), [][]int64{{11}, numbers(0, impl.MaxList+1)}, -1)
	for _, value := range []int64{-impl.MaxFlow, impl.MaxFlow} {
		wide := []impl.Alarm{{High: impl.MaxFlow - 1, Low: -impl.MaxFlow, State: 1}}
		sameFirst(t, "the furthest values", wide, [][]int64{{value}}, min(0, value/impl.MaxFlow))
	}
}

// TestFirstOutMaxList: lists that are handed in as such and too long are looked for ahead of all else.
func TestFirstOutMaxList(t *testing.T) {
	alarms, values := manyAlarms(quickBell(), impl.MaxList+1), slices.Repeat([][]int64{{11}}, impl.MaxList+1)
	sameFirst(t, "both above MaxList", alarms, values, 0)
	sameFirst(t, "alarms above MaxList", alarms, values[:1], 0)
	sameFirst(t, "alarms above MaxList, no values", alarms, nil, 0)
	sameFirst(t, "values above MaxList", alarms[:1], values, 0)
	sameFirst(t, "values above MaxList, no alarms", nil, values, 0)
	sameFirst(t, "both above MaxList, all wrong", make([]impl.Alarm, impl.MaxList+1), slices.Repeat([][]int64{{impl.MaxFlow + 1}}, impl.MaxList+1), 0)
	sameFirst(t, "values above MaxList, a wrong alarm", make([]impl.Alarm, 1), values, 0)
	sameFirst(t, "alarms of MaxList, values of one less", alarms[:impl.MaxList], values[:impl.MaxList-1], -1)
}

func TestFirstOutWrong(t *testing.T) {
	good, loud := quickBell(), []int64{11, 11, 11}
	for what, a := range wrongAlarms() {
		sameFirst(t, what+", alone", []impl.Alarm{a}, [][]int64{loud}, -1)
		sameFirst(t, what+", no values", []impl.Alarm{a}, [][]int64{nil}, -1)
		sameFirst(t, what+", the first one", []impl.Alarm{a, good}, [][]int64{{}, loud}, -1)
		sameFirst(t, what+", the last one", []impl.Alarm{good, good, a}, [][]int64{loud, loud, {}}, -1)
	}
	for what, value := range beside(-impl.MaxFlow, impl.MaxFlow) {
		sameFirst(t, "a value "+what, []impl.Alarm{good}, [][]int64{{value}}, -1)
		sameFirst(t, "a value behind a raised one, "+what, []impl.Alarm{good}, [][]int64{{11, 11, value}}, -1)
		sameFirst(t, "a value of the last one, "+what, []impl.Alarm{good, good}, [][]int64{loud, {0, 0, 0, 0, value}}, -1)
		sameFirst(t, "a value put off, "+what, []impl.Alarm{hushed(good, 9), good}, [][]int64{{value}, loud}, -1)
	}
	sameFirst(t, "fewer lists", []impl.Alarm{good, good}, [][]int64{loud}, -1)
	sameFirst(t, "no lists", []impl.Alarm{good}, nil, -1)
	sameFirst(t, "more lists", []impl.Alarm{good}, [][]int64{loud, nil}, -1)
	sameFirst(t, "no alarms", nil, [][]int64{nil}, -1)
}

// soundOf writes a loud value as l, a quiet one as q and one between as a point.
func soundOf(a impl.Alarm, values []int64) string {
	var text strings.Builder
	for _, value := range values {
		switch {
		case value > a.High:
			text.WriteByte('l')
		case value < a.Low:
			text.WriteByte('q')
		default:
			text.WriteByte('.')
		}
	}
	return text.String()
}

// plainRaisedAt finds the value that raises an alarm first, as a row of loud ones in their text; -1, if none does.
func plainRaisedAt(a impl.Alarm, values []int64) int {
	sound, ahead, counted := soundOf(a, values), 0, int(a.Count)
	if a.Shelf > 0 {
		ahead, counted = min(int(a.Shelf), len(sound)), 0
	}
	if a.State == impl.AlarmRaised || a.State == impl.AlarmSeen {
		quiet := strings.Index(sound[ahead:], "q")
		if quiet < 0 {
			return -1
		}
		ahead += quiet + 1
	}
	row := strings.Repeat("l", int(a.Delay)+1)
	at := strings.Index(strings.Repeat("l", counted)+sound[ahead:], row)
	if at < 0 {
		return -1
	}
	return ahead - counted + at + len(row) - 1
}

func plainFirst(list []impl.Alarm, values [][]int64) int64 {
	first, least := -1, impl.MaxValues
	for place, a := range list {
		if at := plainRaisedAt(a, values[place]); at >= 0 && at < least {
			first, least = place, at
		}
	}
	return int64(first)
}

func anyLevels(random *rand.Rand, a impl.Alarm, most int) []int64 {
	list := make([]int64, random.Intn(most+1))
	seldom := 1 + random.Intn(6)
	for i := range list {
		if i == 0 || random.Intn(seldom) == 0 {
			list[i] = anyLevel(random, a)
		} else {
			list[i] = list[i-1]
		}
	}
	return list
}

func TestFirstOutOfAny(t *testing.T) {
	random := rand.New(rand.NewSource(221))
	firsts := make([]int, 21)
	for range 4000 {
		list := make([]impl.Alarm, random.Intn(1+[]int{1, 3, 20}[random.Intn(3)]))
		values := make([][]int64, len(list))
		for i := range list {
			list[i] = anyAlarm(random)
			values[i] = anyLevels(random, list[i], []int{4, 20, impl.MaxValues}[random.Intn(3)])
		}
		want := plainFirst(list, values)
		firsts[want+1]++
		sameFirst(t, "any", list, values, want)
		if t.Failed() {
			t.Fatalf("of %+v by %v", list, values)
		}
	}
	if firsts[0] < 300 || firsts[1] < 300 || firsts[2] < 100 || firsts[3] < 50 {
		t.Errorf("%v: too few to tell", firsts)
	}
}
