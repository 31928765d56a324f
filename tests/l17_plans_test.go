package tests

import (
	"math"
	"math/rand"
	"runtime"
	"slices"
	"sync"
	"testing"
	"time"

	"loop.example/g00068/impl"
)

func workFault(code int64) impl.WorkOut {
	return impl.WorkOut{Code: code}
}

func startsOf(end int64, starts ...int64) impl.WorkOut {
	return impl.WorkOut{Starts: starts, End: end}
}

func sameWork(t *testing.T, what string, got impl.WorkOut, want impl.WorkOut) {
	t.Helper()
	if !slices.Equal(got.Starts, want.Starts) || got.End != want.End || got.Code != want.Code {
		t.Errorf("%s: got %+v, want %+v", what, got, want)
	}
}

func sameWorkPlan(t *testing.T, what string, list []impl.Job, crew int64, want impl.WorkOut) {
	t.Helper()
	what = "WorkPlan, " + what
	watchedJobs(t, what, list, func(list []impl.Job) {
		sameWork(t, what, impl.WorkPlan(list, crew), want)
	})
}

func sameWorkLeast(t *testing.T, what string, list []impl.Job, want impl.WorkOut) {
	t.Helper()
	what = "WorkLeast, " + what
	watchedJobs(t, what, list, func(list []impl.Job) {
		sameWork(t, what, impl.WorkLeast(list), want)
	})
}

func TestWorkPlanByHand(t *testing.T) {
	for crew, want := range map[int64]impl.WorkOut{
		4:             startsOf(10, 0, 3, 3, 7, 8),
		5:             startsOf(9, 0, 0, 3, 3, 7),
		6:             startsOf(9, 0, 0, 3, 2, 7),
		8:             startsOf(9, 0, 0, 3, 2, 7),
		9:             startsOf(9, 0, 0, 3, 0, 7),
		math.MaxInt64: startsOf(9, 0, 0, 3, 0, 7),
	} {
		sameWorkPlan(t, "a site by "+decimal(crew), site(), crew, want)
	}
	for crew := range int64(4) {
		sameWorkPlan(t, "a site by "+decimal(crew), site(), crew, workFault(impl.ErrShort))
	}
}

func TestWorkPlanPeople(t *testing.T) {
	three := []impl.Job{job(2, 1), job(2, 1), job(2, 1)}
	sameWorkPlan(t, "one by one", three, 1, startsOf(6, 0, 2, 4))
	sameWorkPlan(t, "two together", three, 2, startsOf(4, 0, 0, 2))
	sameWorkPlan(t, "all together", three, 3, startsOf(2, 0, 0, 0))
	gap := []impl.Job{job(3, 2), job(3, 2, 0), job(1, 1)}
	sameWorkPlan(t, "no room beside", gap, 2, startsOf(7, 0, 3, 6))
	sameWorkPlan(t, "room beside", gap, 3, startsOf(6, 0, 3, 0))
	hole := []impl.Job{job(2, 3), job(1, 1, 0), job(2, 3, 1), job(1, 2), job(2, 2)}
	sameWorkPlan(t, "a hole that is long enough, and one that is not", hole, 3, startsOf(7, 0, 2, 3, 2, 5))
	tail := []impl.Job{job(4, 1), job(1, 2, 0), job(5, 1)}
	sameWorkPlan(t, "too many on the last day alone", tail, 2, startsOf(10, 0, 4, 5))
	sameWorkPlan(t, "a day fewer", changedJobs(tail, func(list []impl.Job) { list[2].Days = 4 }), 2, startsOf(5, 0, 4, 0))
	midst := []impl.Job{job(1, 1), job(1, 2, 0), job(3, 1)}
	sameWorkPlan(t, "too many on a day in the midst", midst, 2, startsOf(5, 0, 1, 2))
}

func TestWorkPlanRows(t *testing.T) {
	pair := []impl.Job{withRows(job(3, 1), 5, 9), withRows(job(2, 1), 0, 9)}
	sameWorkPlan(t, "a Row in common", pair, 9, startsOf(5, 0, 3))
	apart := changedJobs(pair, func(list []impl.Job) { list[1].Rows = []int64{0, 4, 6, 8, 10} })
	sameWorkPlan(t, "no Row in common", apart, 9, startsOf(3, 0, 0))
	ahead := []impl.Job{job(2, 1), withRows(job(1, 1, 0), 3), withRows(job(2, 1), 3), withRows(job(3, 1), 3)}
	sameWorkPlan(t, "ahead of one with the Row, and behind", ahead, 9, startsOf(6, 0, 2, 0, 3))
	for row := range int64(impl.MaxRows) {
		list := []impl.Job{withRows(job(1, 1), rowsFrom(0, impl.MaxRows)...), withRows(job(1, 1), row), job(1, 1)}
		sameWorkPlan(t, "Row "+decimal(row), list, 9, startsOf(2, 0, 1, 0))
		slices.Reverse(list)
		sameWorkPlan(t, "Row "+decimal(row)+", the other way round", list, 9, startsOf(2, 0, 0, 1))
	}
}

func TestWorkPlanAfters(t *testing.T) {
	chain := []impl.Job{job(3, 1), job(1, 1, 0), job(2, 1, 0), job(1, 1, 1, 2), job(1, 1, 1)}
	sameWorkPlan(t, "a fork", chain, 9, startsOf(6, 0, 3, 3, 5, 4))
	sameWorkPlan(t, "a fork by one", chain, 1, startsOf(8, 0, 3, 4, 6, 7))
	sameWorkPlan(t, "the longest ahead counts", []impl.Job{job(9, 1), job(2, 1), job(1, 1, 0, 1)}, 9, startsOf(10, 0, 0, 9))
	sameWorkPlan(t, "the longest ahead counts, the last one", []impl.Job{job(2, 1), job(9, 1), job(1, 1, 0, 1)}, 9, startsOf(10, 0, 0, 9))
}

func TestWorkPlanOfNone(t *testing.T) {
	for _, crew := range []int64{math.MinInt64, -1, 0, 1, math.MaxInt64} {
		sameWorkPlan(t, "none, nil", nil, crew, startsOf(0))
		sameWorkPlan(t, "none", []impl.Job{}, crew, startsOf(0))
	}
	sameWorkLeast(t, "none, nil", nil, startsOf(0))
	sameWorkLeast(t, "none", []impl.Job{}, startsOf(0))
}

// inTurn are the starts of so many Jobs of so many days, one behind the other.
func inTurn(count int, days int64) impl.WorkOut {
	out := impl.WorkOut{End: days * int64(count)}
	for i := range count {
		out.Starts = append(out.Starts, days*int64(i))
	}
	return out
}

func TestWorkPlanAtTheLimits(t *testing.T) {
	turns, together := inTurn(impl.MaxJobs, 30), startsOf(30, numbers(0, impl.MaxJobs)...)
	plain := manyJobs(impl.MaxJobs, job(30, 20))
	for crew, want := range map[int64]impl.WorkOut{20: turns, 39: turns, 600: together, math.MaxInt64: together} {
		sameWorkPlan(t, "MaxJobs by "+decimal(crew), plain, crew, want)
	}
	sameWorkPlan(t, "MaxJobs by one too few for all", plain, 599, startsOf(60, append(numbers(0, impl.MaxJobs-1), 30)...))
	rows := manyJobs(impl.MaxJobs, withRows(job(30, 20), rowsFrom(0, impl.MaxRows)...))
	sameWorkPlan(t, "MaxJobs with all Rows", rows, math.MaxInt64, turns)
	sameWorkPlan(t, "MaxJobs, each last", afterAll(impl.MaxJobs, job(30, 20)), math.MaxInt64, turns)
	sameWorkLeast(t, "MaxJobs", plain, together)
	sameWorkLeast(t, "MaxJobs with all Rows", rows, together)
	sameWorkLeast(t, "MaxJobs, each last", afterAll(impl.MaxJobs, job(30, 20)), turns)
	each := startsOf(30)
	list := make([]impl.Job, impl.MaxJobs)
	for i := range list {
		list[i] = withRows(job(30, 20), int64(3*i), int64(3*i+1), int64(3*i+2))
		each.Starts = append(each.Starts, 0)
	}
	sameWorkPlan(t, "MaxJobs, no Row in common", list, 600, each)
}

func TestWorkPlanFaults(t *testing.T) {
	for what, list := range wrongJobs() {
		for _, crew := range []int64{math.MinInt64, -1, 0, 1, 100, math.MaxInt64} {
			sameWorkPlan(t, what+", by "+decimal(crew), list, crew, workFault(impl.ErrForm))
		}
		sameWorkLeast(t, what, list, workFault(impl.ErrForm))
	}
	for what, each := range map[string]impl.Job{"right ones": job(1, 1), "wrong ones": {}, "ones of many people": job(1, 20)} {
		for _, crew := range []int64{-1, 0, 1, 100} {
			sameWorkPlan(t, "too many "+what, manyJobs(impl.MaxList+1, each), crew, workFault(impl.ErrSize))
		}
		sameWorkLeast(t, "too many "+what, manyJobs(impl.MaxList+1, each), workFault(impl.ErrSize))
	}
}

func TestWorkPlanShort(t *testing.T) {
	for place := range impl.MaxJobs {
		list := manyJobs(impl.MaxJobs, job(1, 5))
		list[place].Crew = 20
		for _, crew := range []int64{math.MinInt64, -1, 0, 4, 5, 19} {
			sameWorkPlan(t, "many at "+decimal(int64(place)), list, crew, workFault(impl.ErrShort))
		}
		if out := impl.WorkPlan(list, 20); out.Code != impl.OK || len(out.Starts) != impl.MaxJobs {
			t.Errorf("WorkPlan, many at %d: got %+v by just as many", place, out)
		}
	}
	for crew := int64(1); crew <= 20; crew++ {
		sameWorkPlan(t, "just as many", []impl.Job{job(7, crew)}, crew, startsOf(7, 0))
		sameWorkPlan(t, "one too few", []impl.Job{job(7, crew)}, crew-1, workFault(impl.ErrShort))
	}
}

func TestWorkLeastByHand(t *testing.T) {
	sameWorkLeast(t, "a site", site(), startsOf(7, 0, 0, 3, 0, 2))
	sameWorkLeast(t, "one", []impl.Job{job(30, 20)}, startsOf(30, 0))
	sameWorkLeast(t, "the first one ends last", []impl.Job{job(9, 1), job(1, 1), job(1, 1, 1)}, startsOf(9, 0, 0, 1))
	sameWorkLeast(t, "a fork", []impl.Job{job(3, 1), job(1, 1, 0), job(2, 1, 0), job(1, 1, 1, 2), job(1, 1, 1)}, startsOf(6, 0, 3, 3, 5, 4))
	sameWorkLeast(t, "over others", []impl.Job{job(1, 1), job(5, 1, 0), job(1, 1, 0, 1)}, startsOf(7, 0, 1, 6))
	sameWorkLeast(t, "over others, the last one", []impl.Job{job(5, 1), job(1, 1), job(1, 1, 0, 1)}, startsOf(6, 0, 0, 5))
}

// calendar has the people and the Rows of each day.
type calendar struct {
	people [1000]int64
	rows   [1000][impl.MaxRows]int64
}

// enter takes it out again with times of -1.
func (c *calendar) enter(j impl.Job, start int64, times int64) {
	for day := start; day < start+j.Days; day++ {
		c.people[day] += times * j.Crew
		for _, row := range j.Rows {
			c.rows[day][row] += times
		}
	}
}

// bears: is no day of it beyond the crew, and no Row shut by two?
func (c *calendar) bears(j impl.Job, start int64, crew int64) bool {
	for day := start; day < start+j.Days; day++ {
		if c.people[day] > crew || slices.ContainsFunc(j.Rows, func(row int64) bool { return c.rows[day][row] > 1 }) {
			return false
		}
	}
	return true
}

// plainPlan tries day by day from 0 on.
func plainPlan(list []impl.Job, crew int64) impl.WorkOut {
	out, days := impl.WorkOut{}, &calendar{}
	for place, j := range list {
		ready, start := plainReady(list, out.Starts, place), int64(0)
		for days.enter(j, start, 1); start < ready || !days.bears(j, start, crew); days.enter(j, start, 1) {
			days.enter(j, start, -1)
			start++
		}
		out.Starts = append(out.Starts, start)
		out.End = max(out.End, start+j.Days)
	}
	return out
}

// plainReady is the first day on which none of those that the Job comes after is still to end.
func plainReady(list []impl.Job, starts []int64, place int) int64 {
	day := int64(0)
	for slices.ContainsFunc(list[place].After, func(a int64) bool { return starts[a]+list[a].Days > day }) {
		day++
	}
	return day
}

// anyCrew is enough for each Job, seldom for all.
func anyCrew(random *rand.Rand, list []impl.Job) int64 {
	return mostCrew(list) + []int64{0, random.Int63n(5), random.Int63n(40), 1000}[random.Intn(4)]
}

func TestWorkPlanOfAny(t *testing.T) {
	random := rand.New(rand.NewSource(171))
	seen := map[string]int{}
	for range 300 {
		list := anyJobs(random, impl.MaxJobs)
		crew := anyCrew(random, list)
		want := plainPlan(list, crew)
		sameWorkPlan(t, "any", list, crew, want)
		if t.Failed() {
			t.Fatalf("of %+v by %d", list, crew)
		}
		for place := range list {
			if late := want.Starts[place] - plainReady(list, want.Starts, place); late > 0 {
				seen["late"]++
			} else {
				seen["at once"]++
			}
		}
	}
	if seen["late"] < 1000 || seen["at once"] < 1000 {
		t.Errorf("%v: too few to tell", seen)
	}
}

func TestWorkLeastOfAny(t *testing.T) {
	random := rand.New(rand.NewSource(172))
	for range 2000 {
		list := anyJobs(random, impl.MaxJobs)
		want := impl.WorkOut{}
		for place, j := range list {
			want.Starts = append(want.Starts, plainReady(list, want.Starts, place))
			want.End = max(want.End, want.Starts[place]+j.Days)
		}
		sameWorkLeast(t, "any", list, want)
		if t.Failed() {
			t.Fatalf("of %+v", list)
		}
	}
}

func spoilJobs(list []impl.Job) {
	for i := range list {
		for k := range list[i].After {
			list[i].After[k] = -9
		}
		for k := range list[i].Rows {
			list[i].Rows[k] = -9
		}
		list[i] = job(-9, -9)
	}
}

func TestWorkOutIsNew(t *testing.T) {
	for what, call := range map[string]func(list []impl.Job) impl.WorkOut{
		"WorkPlan":  func(list []impl.Job) impl.WorkOut { return impl.WorkPlan(list, 5) },
		"WorkLeast": impl.WorkLeast,
	} {
		want := call(site())
		list := copiedJobs(site())
		out := call(list)
		spoilJobs(list)
		sameWork(t, what+" behind spoilt Jobs", out, want)
		for i := range out.Starts {
			out.Starts[i] = -9
		}
		_ = append(out.Starts, -9)
		sameWork(t, what+" behind a spoilt answer", call(site()), want)
	}
}

// TestWorkPlanEndsItsWorkers: whatever days are left over, nobody waits to send them.
func TestWorkPlanEndsItsWorkers(t *testing.T) {
	before := runtime.NumGoroutine()
	for range 200 {
		impl.WorkPlan(manyJobs(impl.MaxJobs, job(30, 20)), 40)
		impl.WorkPlan(site(), 9)
	}
	// One that has said that it is done may still have its last step ahead.
	for range 1000 {
		if runtime.NumGoroutine() <= before {
			return
		}
		time.Sleep(time.Millisecond)
	}
	t.Errorf("%d goroutines ahead, %d behind", before, runtime.NumGoroutine())
}

// TestWorkPlanAtTheSameTime: plans that are made side by side do not mind each other.
func TestWorkPlanAtTheSameTime(t *testing.T) {
	random := rand.New(rand.NewSource(173))
	list := anyJobs(random, impl.MaxJobs)
	crew := anyCrew(random, list)
	want := impl.WorkPlan(list, crew)
	got := make([]impl.WorkOut, 16)
	var all sync.WaitGroup
	for i := range got {
		all.Go(func() { got[i] = impl.WorkPlan(list, crew) })
	}
	all.Wait()
	for _, out := range got {
		sameWork(t, "WorkPlan beside others", out, want)
	}
}
