package tests

import (
	"math/rand"
	"testing"

	"loop.example/g00068/impl"
)

// bell is raised by the third value above 10, and goes by one below 5.
func bell() impl.Alarm {
	return impl.Alarm{High: 10, Low: 5, Delay: 2, State: impl.AlarmRest}
}

// bellAt is a bell in some state, that has counted so many.
func bellAt(state int64, count int64) impl.Alarm {
	a := bell()
	a.State, a.Count = state, count
	return a
}

func changedAlarm(a impl.Alarm, change func(a *impl.Alarm)) impl.Alarm {
	change(&a)
	return a
}

// hushed is an alarm that is put off for so many values.
func hushed(a impl.Alarm, shelf int64) impl.Alarm {
	a.Shelf = shelf
	return a
}

func valueAct(value int64) impl.Act {
	return impl.Act{Kind: impl.ActValue, Value: value}
}

func seeAct() impl.Act {
	return impl.Act{Kind: impl.ActSee}
}

func shelveAct(values int64) impl.Act {
	return impl.Act{Kind: impl.ActShelve, Value: values}
}

func TestAlarmNumbers(t *testing.T) {
	samePlaces(t, "states", []int64{impl.AlarmRest, impl.AlarmRaised, impl.AlarmSeen, impl.AlarmGone}, []int64{1, 2, 3, 4})
	samePlaces(t, "acts", []int64{impl.ActValue, impl.ActSee, impl.ActShelve}, []int64{1, 2, 3})
	samePlaces(t, "values", []int64{impl.MaxValues}, []int64{300})
}

// rightAlarms are at the limits, or of little.
func rightAlarms() map[string]impl.Alarm {
	most := int64(impl.MaxFlow)
	right := map[string]impl.Alarm{
		"a bell":               bell(),
		"of noughts":           {State: impl.AlarmRest},
		"all that may be":      {High: most, Low: most, Delay: 100, State: impl.AlarmGone, Count: 100, Shelf: 1000},
		"as far as may be":     {High: most, Low: -most, Delay: 100, State: impl.AlarmSeen, Shelf: 1000},
		"both at the least":    {High: -most, Low: -most, State: impl.AlarmRaised},
		"Low is High":          {High: 7, Low: 7, State: impl.AlarmRest},
		"Count is Delay":       bellAt(impl.AlarmRest, 2),
		"one counted":          bellAt(impl.AlarmGone, 1),
		"raised, but counting": bellAt(impl.AlarmRaised, 2),
		"seen, but counting":   bellAt(impl.AlarmSeen, 1),
		"counting, put off":    hushed(bellAt(impl.AlarmRest, 2), 5),
	}
	for state := int64(1); state <= 4; state++ {
		right["State "+decimal(state)] = bellAt(state, 0)
		right["put off, State "+decimal(state)] = hushed(bellAt(state, 0), 1)
	}
	return right
}

// wrongAlarms are right but for what their names say.
func wrongAlarms() map[string]impl.Alarm {
	wrong := map[string]impl.Alarm{"none": {}}
	add := func(what string, change func(a *impl.Alarm)) {
		wrong[what] = changedAlarm(bell(), change)
	}
	for what, n := range beside(-impl.MaxFlow, impl.MaxFlow) {
		add("High is "+what, func(a *impl.Alarm) { a.High = n })
		add("Low is "+what, func(a *impl.Alarm) { a.Low = n })
		add("High and Low are "+what, func(a *impl.Alarm) { a.High, a.Low = n, n })
	}
	for what, n := range beside(0, 100) {
		add("Delay is "+what, func(a *impl.Alarm) { a.Delay = n })
		add("Delay and Count are "+what, func(a *impl.Alarm) { a.Delay, a.Count = n, n })
	}
	for what, n := range beside(0, 2) {
		add("Count is "+what, func(a *impl.Alarm) { a.Count = n })
		for state := int64(2); state <= 4; state++ {
			add("Count is "+what+", State "+decimal(state), func(a *impl.Alarm) { a.Count, a.State = n, state })
		}
	}
	for what, n := range beside(0, 100) {
		add("Count is "+what+" by the greatest Delay", func(a *impl.Alarm) { a.Count, a.Delay = n, 100 })
	}
	for what, n := range beside(impl.AlarmRest, impl.AlarmGone) {
		add("State is "+what, func(a *impl.Alarm) { a.State = n })
	}
	for what, n := range beside(0, 1000) {
		add("Shelf is "+what, func(a *impl.Alarm) { a.Shelf = n })
	}
	add("Low is one above High", func(a *impl.Alarm) { a.Low = 11 })
	add("High is one below Low", func(a *impl.Alarm) { a.High = 4 })
	add("High and Low changed round", func(a *impl.Alarm) { a.High, a.Low = -impl.MaxFlow, impl.MaxFlow })
	add("one counted without a Delay", func(a *impl.Alarm) { a.Delay, a.Count = 0, 1 })
	return wrong
}

func TestAlarmRight(t *testing.T) {
	for what, a := range rightAlarms() {
		if !impl.AlarmRight(a) {
			t.Errorf("AlarmRight, %s: got false of %+v", what, a)
		}
	}
	for what, a := range wrongAlarms() {
		if impl.AlarmRight(a) {
			t.Errorf("AlarmRight, %s: got true of %+v", what, a)
		}
	}
}

// wrongActs are none wherever they stand.
func wrongActs() map[string]impl.Act {
	wrong := map[string]impl.Act{"none": {}, "of Kind 0": {Value: 11}}
	for what, n := range beside(impl.ActValue, impl.ActShelve) {
		for _, value := range []int64{-1, 0, 4, 11} {
			wrong["Kind is "+what+", Value "+decimal(value)] = impl.Act{Kind: n, Value: value}
		}
	}
	for what, n := range beside(-impl.MaxFlow, impl.MaxFlow) {
		for kind := int64(0); kind <= 4; kind++ {
			wrong["Kind "+decimal(kind)+", Value is "+what] = impl.Act{Kind: kind, Value: n}
		}
	}
	return wrong
}

func sameAlarm(t *testing.T, what string, got impl.Alarm, want impl.Alarm) {
	t.Helper()
	if got != want {
		t.Errorf("%s: got %+v, want %+v", what, got, want)
	}
}

func sameAct(t *testing.T, what string, a impl.Alarm, act impl.Act, want impl.Alarm) {
	t.Helper()
	sameAlarm(t, "AlarmAct, "+what, impl.AlarmAct(a, act), want)
}

// behindAct is what a bell of a State comes to by an act.
type behindAct struct {
	what  string
	state int64
	count int64
	act   impl.Act
	to    int64
	comes int64
}

func TestAlarmActByHand(t *testing.T) {
	const rest, raised, seen, gone = impl.AlarmRest, impl.AlarmRaised, impl.AlarmSeen, impl.AlarmGone
	for _, c := range []behindAct{
		{"rest, the first loud one", rest, 0, valueAct(11), rest, 1},
		{"rest, the second loud one", rest, 1, valueAct(11), rest, 2},
		{"rest, the third loud one", rest, 2, valueAct(11), raised, 0},
		{"rest, at High", rest, 2, valueAct(10), rest, 0},
		{"rest, at High, none counted", rest, 0, valueAct(10), rest, 0},
		{"rest, between", rest, 1, valueAct(7), rest, 0},
		{"rest, below Low", rest, 2, valueAct(4), rest, 0},
		{"rest, seen", rest, 2, seeAct(), rest, 2},
		{"gone, the first loud one", gone, 0, valueAct(11), gone, 1},
		{"gone, the second loud one", gone, 1, valueAct(11), gone, 2},
		{"gone, the third loud one", gone, 2, valueAct(11), raised, 0},
		{"gone, at High", gone, 2, valueAct(10), gone, 0},
		{"gone, below Low", gone, 1, valueAct(4), gone, 0},
		{"gone, seen", gone, 0, seeAct(), rest, 0},
		{"gone, seen, two counted", gone, 2, seeAct(), rest, 2},
		{"raised, loud", raised, 0, valueAct(11), raised, 0},
		{"raised, at High", raised, 0, valueAct(10), raised, 0},
		{"raised, at Low", raised, 0, valueAct(5), raised, 0},
		{"raised, below Low", raised, 0, valueAct(4), gone, 0},
		{"raised, seen", raised, 0, seeAct(), seen, 0},
		{"raised, seen, two counted", raised, 2, seeAct(), seen, 2},
		{"raised, loud, two counted", raised, 2, valueAct(11), raised, 2},
		{"raised, between, two counted", raised, 2, valueAct(7), raised, 2},
		{"raised, below Low, two counted", raised, 2, valueAct(4), gone, 2},
		{"seen, loud", seen, 0, valueAct(11), seen, 0},
		{"seen, at Low", seen, 0, valueAct(5), seen, 0},
		{"seen, below Low", seen, 0, valueAct(4), rest, 0},
		{"seen, below Low, one counted", seen, 1, valueAct(4), rest, 1},
		{"seen, seen", seen, 0, seeAct(), seen, 0},
		{"rest, very loud", rest, 0, valueAct(impl.MaxFlow), rest, 1},
		{"seen, very quiet", seen, 0, valueAct(-impl.MaxFlow), rest, 0},
	} {
		sameAct(t, c.what, bellAt(c.state, c.count), c.act, bellAt(c.to, c.comes))
	}
}

// TestAlarmActSeeAnyValue: of a See the Value says nothing, as long as it may be.
func TestAlarmActSeeAnyValue(t *testing.T) {
	for _, value := range []int64{-impl.MaxFlow, -1, 0, 4, 11, impl.MaxFlow} {
		see := impl.Act{Kind: impl.ActSee, Value: value}
		sameAct(t, "raised, seen by "+decimal(value), bellAt(impl.AlarmRaised, 0), see, bellAt(impl.AlarmSeen, 0))
		sameAct(t, "gone, seen by "+decimal(value), bellAt(impl.AlarmGone, 1), see, bellAt(impl.AlarmRest, 1))
	}
}

// TestAlarmActDelays: with any Delay it is the value behind so many that raises.
func TestAlarmActDelays(t *testing.T) {
	for delay := range int64(101) {
		for _, state := range []int64{impl.AlarmRest, impl.AlarmGone} {
			a := changedAlarm(bellAt(state, 0), func(a *impl.Alarm) { a.Delay = delay })
			for count := range delay {
				want := changedAlarm(a, func(a *impl.Alarm) { a.Count = count + 1 })
				sameAct(t, "Delay "+decimal(delay), changedAlarm(a, func(a *impl.Alarm) { a.Count = count }), valueAct(11), want)
			}
			full := changedAlarm(a, func(a *impl.Alarm) { a.Count = delay })
			sameAct(t, "the last one of Delay "+decimal(delay), full, valueAct(11), changedAlarm(a, func(a *impl.Alarm) { a.State = impl.AlarmRaised }))
			sameAct(t, "at High behind Delay "+decimal(delay), full, valueAct(10), a)
		}
	}
}

func TestAlarmActShelf(t *testing.T) {
	for state := int64(1); state <= 4; state++ {
		what := ", State " + decimal(state)
		for _, value := range []int64{-impl.MaxFlow, 4, 5, 7, 10, 11, impl.MaxFlow} {
			for _, shelf := range []int64{1, 2, 7, 1000} {
				sameAct(t, decimal(value)+" put off"+what, hushed(bellAt(state, 2), shelf), valueAct(value), hushed(bellAt(state, 0), shelf-1))
			}
		}
		for _, shelf := range []int64{0, 1, 2, 999, 1000} {
			for _, ahead := range []int64{0, 3, 1000} {
				sameAct(t, "shelved for "+decimal(shelf)+what, hushed(bellAt(state, 2), ahead), shelveAct(shelf), hushed(bellAt(state, 2), shelf))
			}
		}
		for _, shelf := range []int64{-impl.MaxFlow, -1, 1001, impl.MaxFlow} {
			for _, ahead := range []int64{0, 3, 1000} {
				sameAct(t, "shelved for "+decimal(shelf)+what, hushed(bellAt(state, 2), ahead), shelveAct(shelf), hushed(bellAt(state, 2), ahead))
			}
		}
	}
	sameAct(t, "put off, raised, seen", hushed(bellAt(impl.AlarmRaised, 1), 3), seeAct(), hushed(bellAt(impl.AlarmSeen, 1), 3))
	sameAct(t, "put off, gone, seen", hushed(bellAt(impl.AlarmGone, 1), 3), seeAct(), hushed(bellAt(impl.AlarmRest, 1), 3))
	sameAct(t, "put off, at rest, seen", hushed(bellAt(impl.AlarmRest, 1), 3), seeAct(), hushed(bellAt(impl.AlarmRest, 1), 3))
	sameAct(t, "put off, seen, seen", hushed(bellAt(impl.AlarmSeen, 1), 3), seeAct(), hushed(bellAt(impl.AlarmSeen, 1), 3))
}

// TestAlarmActWrong: what may not be leaves the alarm as it is, be that right or not.
func TestAlarmActWrong(t *testing.T) {
	for what, act := range wrongActs() {
		for of, a := range rightAlarms() {
			sameAct(t, what+", of "+of, a, act, a)
		}
	}
	acts := []impl.Act{valueAct(-impl.MaxFlow), valueAct(0), valueAct(7), valueAct(impl.MaxFlow), seeAct(), shelveAct(0), shelveAct(9), {}}
	for what, a := range wrongAlarms() {
		for _, act := range acts {
			sameAct(t, what+", by "+decimal(act.Kind), a, act, a)
		}
	}
}

// step is what a State comes to: seen, by a value above High that is loud for long enough, by one below Low.
type step struct {
	seen  int64
	loud  int64
	quiet int64
}

func plainSteps() map[int64]step {
	return map[int64]step{
		1: {seen: 1, loud: 2, quiet: 1},
		2: {seen: 3, loud: 2, quiet: 4},
		3: {seen: 3, loud: 3, quiet: 1},
		4: {seen: 1, loud: 2, quiet: 4},
	}
}

// plainAct tells by the words of chapter 23, of a right alarm and an act that may be.
func plainAct(a impl.Alarm, act impl.Act) impl.Alarm {
	next, counts := plainSteps()[a.State], a.State == 1 || a.State == 4
	switch {
	case act.Kind == 2:
		a.State = next.seen
	case act.Kind == 3 && act.Value >= 0 && act.Value <= 1000:
		a.Shelf = act.Value
	case act.Kind == 3:
	case a.Shelf > 0:
		a.Shelf, a.Count = a.Shelf-1, 0
	case act.Value < a.Low:
		a.State = next.quiet
		if counts {
			a.Count = 0
		}
	case counts && act.Value <= a.High:
		a.Count = 0
	case counts && a.Count < a.Delay:
		a.Count++
	case counts:
		a.State, a.Count = next.loud, 0
	}
	return a
}

// TestAlarmActAllSmall goes through all small alarms by all small acts.
func TestAlarmActAllSmall(t *testing.T) {
	count := 0
	for n := range int64(4 * 3 * 3 * 4 * 4 * 4) {
		a := impl.Alarm{Low: n%4 - 1, High: n/4%3 - 1, Delay: n / 12 % 3, Count: n / 36 % 4, State: 1 + n/144%4, Shelf: n / 576}
		right := a.Low <= a.High && a.Count <= a.Delay
		if impl.AlarmRight(a) != right {
			t.Errorf("AlarmRight of %+v: got %v", a, !right)
		}
		if !right {
			continue
		}
		count++
		for kind := int64(1); kind <= 3; kind++ {
			for value := int64(-3); value <= 3; value++ {
				act := impl.Act{Kind: kind, Value: value}
				sameAct(t, "all small ones", a, act, plainAct(a, act))
			}
		}
	}
	if count != 6*6*16 {
		t.Errorf("%d alarms: these are not all", count)
	}
}

// anyAlarm is right; its limits are near to nought, so that small values are on both sides of them.
func anyAlarm(random *rand.Rand) impl.Alarm {
	a := impl.Alarm{High: random.Int63n(9) - 3, State: 1 + random.Int63n(4)}
	a.Low = a.High - random.Int63n(4)
	if random.Intn(8) == 0 {
		a.High, a.Low = anyNumber(random, impl.MaxFlow), -anyNumber(random, impl.MaxFlow)
	}
	a.Delay = []int64{0, random.Int63n(4), anyNumber(random, 100)}[random.Intn(3)]
	if random.Intn(2) == 0 {
		a.Count = random.Int63n(a.Delay + 1)
	}
	if random.Intn(4) == 0 {
		a.Shelf = []int64{random.Int63n(6), anyNumber(random, 1000)}[random.Intn(2)]
	}
	return a
}

// anyLevel is a value at some side of an alarm's limits, often close to one of them.
func anyLevel(random *rand.Rand, a impl.Alarm) int64 {
	near := []int64{a.High + 1, a.High, a.Low, a.Low - 1, anyValue(random)}[random.Intn(5)]
	return max(-impl.MaxFlow, min(impl.MaxFlow, near))
}

// anyAct may be.
func anyAct(random *rand.Rand, a impl.Alarm) impl.Act {
	switch random.Intn(12) {
	case 0, 1:
		return impl.Act{Kind: impl.ActSee, Value: anyValue(random)}
	case 2:
		return shelveAct([]int64{random.Int63n(4), anyValue(random), anyNumber(random, 1001)}[random.Intn(3)])
	}
	return valueAct(anyLevel(random, a))
}

func TestAlarmActOfAny(t *testing.T) {
	random := rand.New(rand.NewSource(219))
	for range 20000 {
		a := anyAlarm(random)
		act := anyAct(random, a)
		sameAct(t, "any", a, act, plainAct(a, act))
		if !impl.AlarmRight(impl.AlarmAct(a, act)) {
			t.Errorf("AlarmAct, %+v by %+v: not right behind it", a, act)
		}
	}
}
