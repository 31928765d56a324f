package tests

import (
	"math"
	"math/rand"
	"slices"
	"testing"

	"loop.example/g00068/impl"
)

// watchedStorms calls with storms of its own, and tells if they were changed.
func watchedStorms(t *testing.T, what string, storms [][]int64, call func(storms [][]int64)) {
	t.Helper()
	var given [][]int64
	if storms != nil {
		given = make([][]int64, len(storms), len(storms)+1)
	}
	for i, storm := range storms {
		given[i] = roomyPlaces(storm)
	}
	call(given)
	for i, storm := range storms {
		if !keptPlaces(given[i], storm) {
			t.Errorf("%s: storm %d was changed", what, i)
		}
	}
	if storms != nil && given[:len(storms)+1][len(storms)] != nil {
		t.Errorf("%s: a storm was put behind the others", what)
	}
}

func placesOf(list []int64) []int64 {
	var places []int64
	for place, n := range list {
		if n != 0 {
			places = append(places, int64(place))
		}
	}
	return places
}

// sameSewerRun also holds SewerSpills against what spills in the run.
func sameSewerRun(t *testing.T, what string, list []impl.Sewer, storms [][]int64, want impl.SewerOut) {
	t.Helper()
	watchedSewers(t, what, list, func(list []impl.Sewer) {
		watchedStorms(t, what, storms, func(storms [][]int64) {
			sameSewers(t, "SewerRun, "+what, impl.SewerRun(list, storms), want)
			samePlaces(t, "SewerSpills, "+what, impl.SewerSpills(list, storms), placesOf(want.Spill))
		})
	})
}

// plainSewerRun goes by the steps alone, as chapter 15 says it of SewerRun.
func plainSewerRun(list []impl.Sewer, storms [][]int64) impl.SewerOut {
	out := impl.SewerOut{List: list, Flows: numbers(0, len(list)), Spill: numbers(0, len(list))}
	for _, storm := range storms {
		step := plainSewerStep(out.List, storm)
		out.List, out.End = step.List, out.End+step.End
		for place := range list {
			out.Flows[place] += step.Flows[place]
			out.Spill[place] += step.Spill[place]
		}
	}
	return out
}

func anyStorms(random *rand.Rand, list []impl.Sewer, steps int) [][]int64 {
	storms := make([][]int64, steps)
	for i := range storms {
		storms[i] = anyStorm(random, list)
	}
	return storms
}

// twoDays are a storm and a dry day behind it.
func twoDays() [][]int64 {
	return [][]int64{{20, 6, 1, 7, 3, 4}, {0, 0, 0, 0, 0, 0}}
}

func TestSewerRunByHand(t *testing.T) {
	days := twoDays()
	spill := []int64{5, 0, 1, 5, 3, 0}
	sameSewerRun(t, "one step", drains(), days[:1], impl.SewerOut{
		List: drainsHolding(5, 3, 8, 2, 1, 0), Flows: []int64{10, 7, 12, 2, 0, 16}, Spill: spill, End: 18})
	sameSewerRun(t, "two steps", drains(), days, impl.SewerOut{
		List: drainsHolding(0, 1, 6, 1, 1, 0), Flows: []int64{15, 9, 21, 3, 0, 25}, Spill: spill, End: 28})
	dry := numbers(0, 6)
	first := impl.SewerOut{List: drainsHolding(0, 2, 5, 1, 1, 0), Flows: []int64{0, 2, 0, 1, 0, 0}, Spill: dry, End: 1}
	sameSewerRun(t, "a dry step", drains(), [][]int64{dry}, first)
}

func TestSewerRunOfNoSteps(t *testing.T) {
	for what, list := range rightSewers() {
		want := impl.SewerOut{List: list, Flows: numbers(0, len(list)), Spill: numbers(0, len(list))}
		sameSewerRun(t, "no storms, "+what, list, nil, want)
		sameSewerRun(t, "an empty list of storms, "+what, list, [][]int64{}, want)
	}
	for what, list := range wrongSewers() {
		sameSewerRun(t, "no storms, "+what, list, nil, sewerFault(impl.ErrForm))
	}
}

func TestSewerRunForm(t *testing.T) {
	for what, list := range wrongSewers() {
		sameSewerRun(t, what, list, [][]int64{numbers(0, len(list))}, sewerFault(impl.ErrForm))
		sameSewerRun(t, what+", MaxSteps", list, slices.Repeat([][]int64{numbers(9, len(list))}, impl.MaxSteps), sewerFault(impl.ErrForm))
	}
	good := twoDays()[0]
	for _, bad := range [][]int64{nil, {}, numbers(0, 5), numbers(0, 7), numbers(0, impl.MaxList), numbers(0, impl.MaxList+1),
		{0, 0, -1, 0, 0, 0}, {impl.MaxFlow + 1, 0, 0, 0, 0, 0}, {0, 0, 0, 0, 0, math.MinInt64}, {0, 0, 0, 0, 0, math.MaxInt64}} {
		sameSewerRun(t, "a wrong storm alone", drains(), [][]int64{bad}, sewerFault(impl.ErrForm))
		sameSewerRun(t, "a wrong storm first", drains(), [][]int64{bad, good}, sewerFault(impl.ErrForm))
		sameSewerRun(t, "a wrong storm behind one that spills", drains(), [][]int64{good, good, bad}, sewerFault(impl.ErrForm))
	}
}

func TestSewerRunSize(t *testing.T) {
	one := []impl.Sewer{{Kind: impl.KindFree, Flow: 3, Down: -1}}
	storms := func(count int, storm ...int64) [][]int64 {
		return slices.Repeat([][]int64{storm}, count)
	}
	long := sewerRow(impl.MaxList+1, impl.Sewer{Kind: impl.KindFree})
	sameSewerRun(t, "MaxSteps", one, storms(impl.MaxSteps, 5), impl.SewerOut{
		List: one, Flows: []int64{3 * impl.MaxSteps}, Spill: []int64{2 * impl.MaxSteps}, End: 3 * impl.MaxSteps})
	sameSewerRun(t, "one step more", one, storms(impl.MaxSteps+1, 5), sewerFault(impl.ErrSize))
	sameSewerRun(t, "MaxList steps", one, storms(impl.MaxList, 5), sewerFault(impl.ErrSize))
	sameSewerRun(t, "more than MaxList steps", one, storms(impl.MaxList+1, 5), sewerFault(impl.ErrSize))
	sameSewerRun(t, "MaxSteps of a wrong storm", one, storms(impl.MaxSteps, -1), sewerFault(impl.ErrForm))
	sameSewerRun(t, "one step more of it", one, storms(impl.MaxSteps+1, -1), sewerFault(impl.ErrSize))
	sameSewerRun(t, "one step more of no storm", one, make([][]int64, impl.MaxSteps+1), sewerFault(impl.ErrSize))
	sameSewerRun(t, "too many sewers", long, [][]int64{numbers(0, impl.MaxList+1)}, sewerFault(impl.ErrSize))
	sameSewerRun(t, "too many sewers, no steps", long, nil, sewerFault(impl.ErrSize))
	sameSewerRun(t, "too many sewers that are wrong", make([]impl.Sewer, impl.MaxList+1), nil, sewerFault(impl.ErrSize))
	sameSewerRun(t, "MaxList sewers", long[:impl.MaxList], nil, sewerFault(impl.ErrForm))
	for what, list := range wrongSewers() {
		sameSewerRun(t, "one step more, "+what, list, make([][]int64, impl.MaxSteps+1), sewerFault(impl.ErrSize))
	}
}

func TestSewerRunOfTheMost(t *testing.T) {
	const most = impl.MaxFlow
	for kind := int64(impl.KindFree); kind <= impl.KindDip; kind++ {
		list := sewerRow(impl.MaxReaches, impl.Sewer{Kind: kind, Store: most, Room: most, Flow: most, Lip: most})
		storms := slices.Repeat([][]int64{numbers(most, impl.MaxReaches)}, impl.MaxSteps)
		want := plainSewerRun(list, storms)
		if want.End != most*impl.MaxSteps || want.Spill[impl.MaxReaches-1] != most*impl.MaxSteps {
			t.Errorf("kind %d, all at their most: %+v is not the most", kind, want)
		}
		sameSewerRun(t, "all at their most", list, storms, want)
	}
}

func TestSewerRunOfAny(t *testing.T) {
	random := rand.New(rand.NewSource(142))
	spilt := 0
	for range 1500 {
		list := anySewers(random, 10)
		storms := anyStorms(random, list, random.Intn(9))
		want := plainSewerRun(list, storms)
		sameSewerRun(t, "any", list, storms, want)
		if t.Failed() {
			t.Fatalf("of %+v, %v", list, storms)
		}
		if places := len(placesOf(want.Spill)); places > 0 && places < len(list) {
			spilt++
		}
	}
	if spilt < 300 {
		t.Errorf("some places spill in %d runs: too few to tell", spilt)
	}
}

func TestSewerRunIsNew(t *testing.T) {
	for steps := range 3 {
		list, days := drains(), twoDays()[:steps]
		ownSewers(t, "SewerRun", func() impl.SewerOut { return impl.SewerRun(list, days) })
		if !slices.Equal(list, drains()) || !slices.EqualFunc(days, twoDays()[:steps], slices.Equal[[]int64]) {
			t.Error("SewerRun: an answer shares memory with what was handed in")
		}
		out := impl.SewerRun(list, days)
		list[0].Store = 5
		for i := range days {
			days[i][1] = 9
		}
		sameSewers(t, "behind spoilt sewers and storms", out, plainSewerRun(drains(), twoDays()[:steps]))
	}
}

func TestSewerSpills(t *testing.T) {
	spills := func(what string, list []impl.Sewer, storms [][]int64, want ...int64) {
		t.Helper()
		samePlaces(t, what, impl.SewerSpills(list, storms), want)
	}
	dry := numbers(0, 6)
	spills("a storm", drains(), twoDays()[:1], 0, 2, 3, 4)
	spills("also if it is dry in the end", drains(), twoDays(), 0, 2, 3, 4)
	spills("in the last step alone", drains(), [][]int64{dry, dry, {0, 0, 0, 0, 3, 0}}, 4)
	spills("one place in a step", drains(), [][]int64{{0, 0, 0, 0, 3, 0}, {0, 0, 0, 9, 0, 0}, dry}, 3, 4)
	spills("dry", drains(), [][]int64{dry})
	spills("no storms", drains(), nil)
	brim := []impl.Sewer{{Kind: impl.KindFree, Store: 3, Room: 4, Flow: 2, Down: -1}}
	spills("to the brim", brim, [][]int64{{3}})
	spills("one more", brim, [][]int64{{4}}, 0)
	spills("to the brim, and one more", brim, [][]int64{{3}, {3}}, 0)
	all := sewerRow(impl.MaxReaches, impl.Sewer{Kind: impl.KindFull})
	spills("all of them", all, [][]int64{numbers(1, impl.MaxReaches)}, placesOf(numbers(1, impl.MaxReaches))...)
}

func TestSewerSpillsRefused(t *testing.T) {
	storm := twoDays()[0]
	for what, storms := range map[string][][]int64{
		"a wrong storm behind it": {storm, {-1, 0, 0, 0, 0, 0}},
		"none behind it":          {storm, nil},
		"too many":                slices.Repeat([][]int64{storm}, impl.MaxSteps+1),
		"very many":               slices.Repeat([][]int64{storm}, impl.MaxList+1),
	} {
		samePlaces(t, what, impl.SewerSpills(drains(), storms), nil)
	}
	for what, list := range wrongSewers() {
		samePlaces(t, what, impl.SewerSpills(list, [][]int64{numbers(impl.MaxFlow, len(list))}), nil)
	}
	long := sewerRow(impl.MaxList+1, impl.Sewer{Kind: impl.KindFree})
	samePlaces(t, "too many sewers", impl.SewerSpills(long, [][]int64{numbers(1, impl.MaxList+1)}), nil)
}

func TestSewerSpillsIsNew(t *testing.T) {
	first := impl.SewerSpills(drains(), twoDays())
	first[0] = 9
	samePlaces(t, "behind a spoilt answer", impl.SewerSpills(drains(), twoDays()), []int64{0, 2, 3, 4})
}
