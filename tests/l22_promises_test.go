package tests

import (
	"math/rand"
	"testing"

	"loop.example/g00068/impl"
)

// between is a value that is neither above High nor below Low.
func between(random *rand.Rand, a impl.Alarm) int64 {
	return a.Low + anyNumber(random, a.High-a.Low)
}

// TestPromise37Between: values between the limits turn no alarm, whatever its state.
func TestPromise37Between(t *testing.T) {
	random := rand.New(rand.NewSource(223))
	for range 3000 {
		a := anyAlarm(random)
		for _, value := range []int64{a.Low, a.High, between(random, a)} {
			if got := impl.AlarmAct(a, valueAct(value)); got.State != a.State {
				t.Fatalf("%+v by %d: got %+v", a, value, got)
			}
		}
		list := make([]impl.Act, random.Intn(impl.MaxValues+1))
		values := make([]int64, len(list))
		for i := range list {
			values[i] = between(random, a)
			list[i] = valueAct(values[i])
			if random.Intn(9) == 0 {
				list[i] = shelveAct(random.Int63n(20))
			}
		}
		out := impl.AlarmRun(a, list)
		if out.Code != impl.OK || len(out.Rings) != 0 || out.Alarm.State != a.State {
			t.Fatalf("%+v by %+v: got %+v", a, list, out)
		}
		if got := impl.FirstOut([]impl.Alarm{a}, [][]int64{values}); got != -1 {
			t.Fatalf("%+v by %v: FirstOut told %d", a, values, got)
		}
	}
}

// TestPromise37Loud: so many loud values as Delay says, and one more, raise what is at rest or gone; none less does.
func TestPromise37Loud(t *testing.T) {
	random := rand.New(rand.NewSource(224))
	for range 2000 {
		a := anyAlarm(random)
		a.Shelf, a.State = 0, []int64{impl.AlarmRest, impl.AlarmGone}[random.Intn(2)]
		a.High = min(a.High, impl.MaxFlow-1)
		a.Low = min(a.Low, a.High)
		raisedBy := a.Delay - a.Count
		for count := range int64(110) {
			out := impl.AlarmRun(a, valueActs(numbers(a.High+1, int(count))...))
			if raised := out.Alarm.State == impl.AlarmRaised; raised != (count > raisedBy) {
				t.Fatalf("%+v by %d loud values: got %+v", a, count, out)
			}
			if count > raisedBy && (len(out.Rings) != 1 || out.Rings[0] != impl.Ring{At: raisedBy, State: impl.AlarmRaised}) {
				t.Fatalf("%+v by %d loud values: got %+v", a, count, out)
			}
		}
	}
}

// loudRow is how many values that are not put off were loud up to the act at a place, one behind the other.
func loudRow(a impl.Alarm, list []impl.Act, at int) int64 {
	count := int64(0)
	for at >= 0 && (list[at].Kind != impl.ActValue || list[at].Value > a.High) {
		if list[at].Kind == impl.ActValue {
			count++
		}
		at--
	}
	return count
}

// TestPromise37LoudInRuns: in a run each raising one ends a row of loud values that is long enough, and behind
// each such row the alarm is raised or seen.
func TestPromise37LoudInRuns(t *testing.T) {
	random := rand.New(rand.NewSource(225))
	raised, long := 0, 0
	for range 2000 {
		a := anyAlarm(random)
		a.Shelf, a.Count, a.Delay = 0, 0, random.Int63n(5)
		var list []impl.Act
		for _, act := range anyActs(random, a, impl.MaxValues) {
			if act.Kind != impl.ActShelve {
				list = append(list, act)
			}
		}
		for _, r := range impl.AlarmRun(a, list).Rings {
			if r.State == impl.AlarmRaised {
				raised++
				if list[r.At].Kind != impl.ActValue || loudRow(a, list, int(r.At)) <= a.Delay {
					t.Fatalf("%+v by %+v: raised at %d", a, list, r.At)
				}
			}
		}
		for at := range list {
			if loudRow(a, list, at) > a.Delay {
				long++
				state := impl.AlarmRun(a, list[:at+1]).Alarm.State
				if state != impl.AlarmRaised && state != impl.AlarmSeen {
					t.Fatalf("%+v by %+v: State %d behind %d", a, list, state, at)
				}
			}
		}
	}
	if raised < 2000 || long < 2000 {
		t.Errorf("%d raised, %d rows: too few to tell", raised, long)
	}
}

// joined are two parts of a run, the second one from a place on.
func joined(first impl.AlarmOut, second impl.AlarmOut, from int) impl.AlarmOut {
	for _, r := range second.Rings {
		first.Rings = append(first.Rings, impl.Ring{At: r.At + int64(from), State: r.State})
	}
	first.Alarm = second.Alarm
	return first
}

// inParts runs the acts in parts of that many.
func inParts(t *testing.T, a impl.Alarm, list []impl.Act, size int) impl.AlarmOut {
	t.Helper()
	all := impl.AlarmOut{Alarm: a}
	for from := 0; from < len(list); from += size {
		out := impl.AlarmRun(all.Alarm, list[from:min(from+size, len(list))])
		if out.Code != impl.OK || !impl.AlarmRight(out.Alarm) {
			t.Fatalf("%+v by %+v: got %+v", a, list, out)
		}
		all = joined(all, out, from)
	}
	return all
}

// TestPromise37Parts: acts in parts, and one by one, are acts at once.
func TestPromise37Parts(t *testing.T) {
	random := rand.New(rand.NewSource(226))
	for range 500 {
		a := anyAlarm(random)
		list := anyActs(random, a, impl.MaxValues)
		whole := impl.AlarmRun(a, list)
		for _, size := range []int{1, 2, 3, 7, 1 + random.Intn(impl.MaxValues)} {
			sameAlarmOut(t, "in parts of "+decimal(int64(size)), inParts(t, a, list, size), whole)
		}
		sameAlarmOut(t, "one by one", actByAct(a, list, impl.AlarmAct), whole)
		if t.Failed() {
			t.Fatalf("of %+v by %+v", a, list)
		}
	}
}

// TestPromise37CutAnywhere: a run in two parts.
func TestPromise37CutAnywhere(t *testing.T) {
	whole := impl.AlarmRun(bell(), shift())
	for cut := range len(shift()) + 1 {
		first := impl.AlarmRun(bell(), shift()[:cut])
		second := impl.AlarmRun(first.Alarm, shift()[cut:])
		sameAlarmOut(t, "cut at "+decimal(int64(cut)), joined(first, second, cut), whole)
	}
}
