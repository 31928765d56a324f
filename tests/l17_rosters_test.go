package tests

import (
	"math"
	"math/rand"
	"slices"
	"testing"

	"loop.example/g00068/impl"
)

// watchedStarts calls with starts of its own, with room behind them, and tells if these were changed.
func watchedStarts(t *testing.T, what string, starts []int64, call func(starts []int64)) {
	t.Helper()
	given := roomyPlaces(starts)
	call(given)
	if !keptPlaces(given, starts) {
		t.Errorf("%s: the starts were changed", what)
	}
}

func sameWorkRight(t *testing.T, what string, list []impl.Job, crew int64, starts []int64, want bool) {
	t.Helper()
	what = "WorkRight, " + what
	watchedJobs(t, what, list, func(list []impl.Job) {
		watchedStarts(t, what, starts, func(starts []int64) {
			if got := impl.WorkRight(list, crew, starts); got != want {
				t.Errorf("%s: got %v of %+v by %d on %v", what, got, list, crew, starts)
			}
		})
	})
}

func sameWorkClash(t *testing.T, what string, list []impl.Job, starts []int64, want ...[]int64) {
	t.Helper()
	what = "WorkClash, " + what
	watchedJobs(t, what, list, func(list []impl.Job) {
		watchedStarts(t, what, starts, func(starts []int64) {
			if got := impl.WorkClash(list, starts); !sameTables(got, want) {
				t.Errorf("%s: got %v, want %v", what, got, want)
			}
		})
	})
}

func TestWorkRightByHand(t *testing.T) {
	for _, c := range []struct {
		what   string
		crew   int64
		starts []int64
		want   bool
	}{
		{"its plan by 4", 4, []int64{0, 3, 3, 7, 8}, true},
		{"its plan by 4, by more", 5, []int64{0, 3, 3, 7, 8}, true},
		{"its plan by 5", 5, []int64{0, 0, 3, 3, 7}, true},
		{"its plan by 5, by 4", 4, []int64{0, 0, 3, 3, 7}, false},
		{"later than need be", 4, []int64{100, 200, 300, 400, 500}, true},
		{"not in order of days", 4, []int64{10, 0, 20, 5, 8}, true},
		{"too early behind the first", 9, []int64{0, 0, 2, 0, 7}, false},
		{"too early behind one of two", 9, []int64{0, 8, 3, 0, 9}, false},
		{"too early behind the other", 9, []int64{0, 0, 3, 8, 8}, false},
		{"just behind both", 9, []int64{0, 8, 3, 9, 10}, true},
		{"a clash", 9, []int64{0, 0, 3, 0, 6}, false},
		{"a clash the other way round", 9, []int64{0, 0, 3, 0, 2}, false},
		{"just ahead", 9, []int64{0, 0, 4, 0, 2}, true},
	} {
		sameWorkRight(t, c.what, site(), c.crew, c.starts, c.want)
	}
}

func TestWorkRightPeople(t *testing.T) {
	list := []impl.Job{job(4, 2), job(3, 3), job(2, 4)}
	for crew := int64(-1); crew <= 10; crew++ {
		sameWorkRight(t, "all together", list, crew, []int64{0, 0, 0}, crew >= 9)
		sameWorkRight(t, "all on one day", list, crew, []int64{0, 3, 2}, crew >= 9)
		sameWorkRight(t, "two by two", list, crew, []int64{0, 3, 6}, crew >= 5)
		sameWorkRight(t, "only the last two", list, crew, []int64{9, 0, 2}, crew >= 7)
		sameWorkRight(t, "only the first and the last", list, crew, []int64{0, 9, 3}, crew >= 6)
		sameWorkRight(t, "one by one", list, crew, []int64{0, 4, 7}, crew >= 4)
		sameWorkRight(t, "the last one first", list, crew, []int64{5, 2, 0}, crew >= 4)
	}
	for _, crew := range []int64{math.MinInt64, math.MinInt64 + 5, 0} {
		sameWorkRight(t, "by few", list, crew, []int64{0, 4, 7}, false)
	}
	sameWorkRight(t, "by all", list, math.MaxInt64, []int64{0, 0, 0}, true)
	most := manyJobs(impl.MaxJobs, job(30, 20))
	sameWorkRight(t, "MaxJobs by just enough", most, 600, numbers(impl.MaxSpan, impl.MaxJobs), true)
	sameWorkRight(t, "MaxJobs by one too few", most, 599, numbers(impl.MaxSpan, impl.MaxJobs), false)
}

func TestWorkRightSpan(t *testing.T) {
	two := []impl.Job{job(30, 1), job(1, 1)}
	for _, start := range []int64{0, 1, impl.MaxSpan - 1, impl.MaxSpan} {
		sameWorkRight(t, "the first on "+decimal(start), two, 9, []int64{start, 5}, true)
		sameWorkRight(t, "the last on "+decimal(start), two, 9, []int64{5, start}, true)
	}
	for what, start := range beside(0, impl.MaxSpan) {
		sameWorkRight(t, "the first on a day that is "+what, two, 9, []int64{start, 5}, false)
		sameWorkRight(t, "the last on a day that is "+what, two, 9, []int64{5, start}, false)
	}
	chain := []impl.Job{job(30, 1), job(1, 1, 0)}
	sameWorkRight(t, "behind one that ends at the last day", chain, 9, []int64{impl.MaxSpan - 30, impl.MaxSpan}, true)
	sameWorkRight(t, "behind one that ends too late", chain, 9, []int64{impl.MaxSpan - 29, impl.MaxSpan}, false)
}

// wrongStarts are wrong for the site, each in one thing.
func wrongStarts() map[string][]int64 {
	wrong := map[string][]int64{
		"none, nil":    nil,
		"none":         {},
		"one too few":  {0, 3, 3, 7},
		"one too many": {0, 3, 3, 7, 8, 9},
		"MaxList":      numbers(0, impl.MaxList),
		"too many":     numbers(0, impl.MaxList+1),
	}
	for place := range site() {
		for what, n := range beside(0, impl.MaxSpan) {
			starts := []int64{0, 3, 3, 7, 8}
			starts[place] = n
			wrong["the one at "+decimal(int64(place))+" is "+what] = starts
		}
	}
	return wrong
}

func TestWorkRightForm(t *testing.T) {
	for what, starts := range wrongStarts() {
		sameWorkRight(t, "starts: "+what, site(), 100, starts, false)
		sameWorkClash(t, "starts: "+what, site(), starts)
	}
	for what, list := range wrongJobs() {
		for _, apart := range []int64{0, 1, 40} {
			starts := inTurn(len(list), apart).Starts
			sameWorkRight(t, what, list, math.MaxInt64, starts, false)
			sameWorkClash(t, what, list, starts)
		}
	}
	shared := withRows(job(1, 1), 5)
	for _, count := range []int{impl.MaxJobs + 1, impl.MaxList, impl.MaxList + 1} {
		sameWorkRight(t, "too many", manyJobs(count, job(1, 1)), 1, inTurn(count, 1).Starts, false)
		sameWorkClash(t, "too many", manyJobs(count, shared), numbers(0, count))
	}
}

// TestWorkRightOfNone: of no Jobs nobody is ever at work, so no crew is too small.
func TestWorkRightOfNone(t *testing.T) {
	for _, crew := range []int64{math.MinInt64, -1, 0, 1, math.MaxInt64} {
		sameWorkRight(t, "none, nil", nil, crew, nil, true)
		sameWorkRight(t, "none", []impl.Job{}, crew, []int64{}, true)
		sameWorkRight(t, "a start of none", nil, crew, []int64{0}, false)
	}
	sameWorkClash(t, "none, nil", nil, nil)
	sameWorkClash(t, "none", []impl.Job{}, []int64{})
	sameWorkClash(t, "a start of none", nil, []int64{0})
}

func TestWorkClashByHand(t *testing.T) {
	sameWorkClash(t, "its least", site(), []int64{0, 0, 3, 0, 2}, []int64{2, 4})
	sameWorkClash(t, "its plan", site(), []int64{0, 0, 3, 3, 7})
	sameWorkClash(t, "all on one day", site(), numbers(0, 5), []int64{0, 2}, []int64{2, 4})
	sameWorkClash(t, "what it comes after is not asked", site(), []int64{5, 5, 2, 5, 3}, []int64{0, 2}, []int64{2, 4})
	list := []impl.Job{
		withRows(job(5, 20), 1), withRows(job(5, 20), 2), withRows(job(5, 20), 1, 2),
		withRows(job(5, 20), 0, 3), withRows(job(5, 20), 0, 1, 2, 3),
	}
	sameWorkClash(t, "in order", list, numbers(impl.MaxSpan, 5), []int64{0, 2}, []int64{0, 4}, []int64{1, 2}, []int64{1, 4}, []int64{2, 4}, []int64{3, 4})
	sameWorkClash(t, "some at other times", list, []int64{0, 9, 4, 0, 9}, []int64{0, 2}, []int64{1, 4})
	sameWorkClash(t, "the last one first", list, []int64{9, 9, 9, 4, 0}, []int64{0, 2}, []int64{1, 2}, []int64{3, 4})
}

// TestWorkClashDays moves one Job past another one day by day.
func TestWorkClashDays(t *testing.T) {
	list := []impl.Job{withRows(job(4, 1), 7), withRows(job(3, 1), 7)}
	for start := range int64(30) {
		both := start > 7 && start < 14
		var want [][]int64
		if both {
			want = [][]int64{{0, 1}}
		}
		sameWorkClash(t, "on "+decimal(start), list, []int64{10, start}, want...)
		sameWorkRight(t, "on "+decimal(start), list, 9, []int64{10, start}, !both)
	}
}

// plainClash goes day by day through all pairs.
func plainClash(list []impl.Job, starts []int64) [][]int64 {
	var pairs [][]int64
	on := func(place int, day int64) bool { return day-starts[place] >= 0 && day-starts[place] < list[place].Days }
	for first := range list {
		for second := range list {
			if second <= first || !slices.ContainsFunc(list[first].Rows, func(row int64) bool { return slices.Contains(list[second].Rows, row) }) {
				continue
			}
			for day := starts[first]; on(first, day); day++ {
				if on(second, day) {
					pairs = append(pairs, []int64{int64(first), int64(second)})
					break
				}
			}
		}
	}
	return pairs
}

// plainWorkRight asks each day for its people, once all Jobs are entered.
func plainWorkRight(list []impl.Job, crew int64, starts []int64) (bool, string) {
	var people [impl.MaxSpan + 30]int64
	for place, j := range list {
		if plainReady(list, starts, place) > starts[place] {
			return false, "too early"
		}
		for day := range j.Days {
			people[starts[place]+day] += j.Crew
		}
	}
	if slices.Max(people[:]) > crew {
		return false, "too many people"
	}
	if len(plainClash(list, starts)) > 0 {
		return false, "a clash"
	}
	return true, "right"
}

// anyStarts are those of a plan by some crew, or of the least, some of them moved, or any.
func anyStarts(random *rand.Rand, list []impl.Job) []int64 {
	starts := impl.WorkPlan(list, anyCrew(random, list)).Starts
	if random.Intn(4) == 0 {
		starts = impl.WorkLeast(list).Starts
	}
	all := random.Intn(4) == 0
	for i := range starts {
		switch {
		case all:
			starts[i] = random.Int63n(200)
		case random.Intn(20) == 0:
			starts[i] = min(impl.MaxSpan, max(0, starts[i]+random.Int63n(7)-3))
		case random.Intn(40) == 0:
			starts[i] = anyNumber(random, impl.MaxSpan)
		}
	}
	return starts
}

func TestWorkRightOfAny(t *testing.T) {
	random := rand.New(rand.NewSource(174))
	seen := map[string]int{}
	for range 2000 {
		list := anyJobs(random, impl.MaxJobs)
		starts, crew := anyStarts(random, list), anyCrew(random, list)
		want, why := plainWorkRight(list, crew, starts)
		seen[why]++
		sameWorkRight(t, "any: "+why, list, crew, starts, want)
		pairs := plainClash(list, starts)
		seen["several clashes"] += min(1, len(pairs)/2)
		sameWorkClash(t, "any", list, starts, pairs...)
		if t.Failed() {
			t.Fatalf("of %+v by %d on %v", list, crew, starts)
		}
	}
	for _, why := range []string{"right", "too early", "too many people", "a clash", "several clashes"} {
		if seen[why] < 50 {
			t.Errorf("%v: too few of %s to tell", seen, why)
		}
	}
}

func TestWorkClashIsNew(t *testing.T) {
	given := manyJobs(4, withRows(job(2, 1), 3))
	list := copiedJobs(given)
	want := [][]int64{{0, 1}, {0, 2}, {0, 3}, {1, 2}, {1, 3}, {2, 3}}
	starts := numbers(0, 4)
	out := impl.WorkClash(list, starts)
	for i := range starts {
		starts[i] = -9
	}
	spoilJobs(list)
	for i, pair := range out {
		_ = append(pair, -9, -9)
		if !sameTables(out, want) {
			t.Fatalf("WorkClash: got %v behind one that grew at %d", out, i)
		}
	}
	for i := range out {
		out[i][0], out[i][1] = -9, -9
		if !sameTables(out[i+1:], want[i+1:]) {
			t.Fatalf("WorkClash: got %v behind one that was spoilt at %d", out, i)
		}
	}
	sameWorkClash(t, "behind a spoilt answer", given, numbers(0, 4), want...)
}
