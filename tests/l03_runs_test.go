package tests

import (
	"math"
	"math/rand"
	"slices"
	"testing"

	"loop.example/g00068/impl"
)

// sameRun also holds what was handed in against what it was.
func sameRun(t *testing.T, what string, list []impl.Reach, rains [][]int64, want impl.RiverOut) {
	t.Helper()
	listBefore, rainsBefore := slices.Clone(list), make([][]int64, len(rains))
	for i := range rains {
		rainsBefore[i] = slices.Clone(rains[i])
	}
	sameRiver(t, "RiverRun, "+what, impl.RiverRun(list, rains), want)
	if !slices.Equal(list, listBefore) || !slices.EqualFunc(rains, rainsBefore, slices.Equal[[]int64]) {
		t.Errorf("RiverRun, %s: what was handed in was changed", what)
	}
}

// plainRun goes by RiverStep alone, as chapter 4 says it of RiverRun.
func plainRun(list []impl.Reach, rains [][]int64) impl.RiverOut {
	out := impl.RiverOut{List: list, Flows: noRain(len(list)), Taken: noRain(len(list))}
	for _, rain := range rains {
		step := impl.RiverStep(out.List, rain)
		if step.Code != impl.OK {
			return riverFault(step.Code)
		}
		out.List, out.Sea = step.List, out.Sea+step.Sea
		for i := range list {
			out.Flows[i] += step.Flows[i]
			out.Taken[i] += step.Taken[i]
		}
	}
	return out
}

func anyRains(random *rand.Rand, count int, steps int) [][]int64 {
	rains := make([][]int64, steps)
	for i := range rains {
		rains[i] = anyRain(random, count)
	}
	return rains
}

func TestRiverRunByHand(t *testing.T) {
	list := []impl.Reach{{Store: 100, Keep: 500, Down: 1, Take: 10, Least: 20}, {Down: -1, Take: 100}}
	first := impl.RiverOut{List: with(list, 0, func(r *impl.Reach) { r.Store = 100 }), Flows: []int64{90, 0}, Taken: []int64{10, 90}}
	sameRun(t, "one step", list, [][]int64{{100, 0}}, first)
	sameRun(t, "two steps", list, [][]int64{{100, 0}, {0, 0}}, impl.RiverOut{
		List: with(list, 0, func(r *impl.Reach) { r.Store = 50 }), Flows: []int64{130, 0}, Taken: []int64{20, 130}})
	sameRun(t, "three steps", list, [][]int64{{100, 0}, {0, 0}, {0, 120}}, impl.RiverOut{
		List: with(list, 0, func(r *impl.Reach) { r.Store = 25 }), Flows: []int64{150, 40}, Taken: []int64{25, 230}, Sea: 40})
}

func TestRiverRunOfNoSteps(t *testing.T) {
	for _, list := range [][]impl.Reach{forks(), {{Down: -1, Store: 5}}, chain(impl.MaxReaches, impl.Reach{Store: impl.MaxWater, Keep: 1000})} {
		want := impl.RiverOut{List: list, Flows: noRain(len(list)), Taken: noRain(len(list))}
		sameRun(t, "no rains", list, nil, want)
		sameRun(t, "an empty list of rains", list, [][]int64{}, want)
	}
	for what, list := range wrongRivers() {
		sameRun(t, "no rains, "+what, list, nil, riverFault(impl.ErrForm))
	}
}

func TestRiverRunIsStepByStep(t *testing.T) {
	random := rand.New(rand.NewSource(7))
	refused := 0
	for range 1500 {
		list := anyRiver(random, 10)
		rains := anyRains(random, len(list), random.Intn(9))
		want := plainRun(list, rains)
		sameRun(t, "any river", list, rains, want)
		if want.Code != impl.OK {
			refused++
		}
	}
	if refused < 50 || refused > 1400 {
		t.Errorf("%d of 1500 are refused: too few or too many to tell", refused)
	}
}

func TestRiverRunForm(t *testing.T) {
	for what, list := range wrongRivers() {
		sameRun(t, what, list, [][]int64{noRain(len(list))}, riverFault(impl.ErrForm))
	}
	good := noRain(6)
	for _, bad := range [][]int64{nil, {}, noRain(5), noRain(7), noRain(impl.MaxList), noRain(impl.MaxList + 1),
		{0, 0, -1, 0, 0, 0}, {impl.MaxFlow + 1, 0, 0, 0, 0, 0}, {0, 0, 0, 0, 0, math.MinInt64}, {0, 0, 0, 0, 0, math.MaxInt64}} {
		sameRun(t, "a wrong rain alone", forks(), [][]int64{bad}, riverFault(impl.ErrForm))
		sameRun(t, "a wrong rain first", forks(), [][]int64{bad, good}, riverFault(impl.ErrForm))
		sameRun(t, "a wrong rain last", forks(), [][]int64{good, good, bad}, riverFault(impl.ErrForm))
	}
}

func TestRiverRunFirstFault(t *testing.T) {
	full := []impl.Reach{{Store: impl.MaxWater - 1, Keep: 1000, Down: -1}}
	filled := impl.RiverOut{List: []impl.Reach{{Store: impl.MaxWater, Keep: 1000, Down: -1}}, Flows: []int64{0}, Taken: []int64{0}}
	dry, one, two, bad := []int64{0}, []int64{1}, []int64{2}, []int64{-1}
	sameRun(t, "to the brim", full, [][]int64{dry, one, dry}, filled)
	sameRun(t, "over at once", full, [][]int64{two}, riverFault(impl.ErrOver))
	sameRun(t, "over in the end", full, [][]int64{one, dry, one}, riverFault(impl.ErrOver))
	sameRun(t, "over ahead of a wrong rain", full, [][]int64{two, bad}, riverFault(impl.ErrOver))
	sameRun(t, "over ahead of a rain of another length", full, [][]int64{one, one, nil}, riverFault(impl.ErrOver))
	sameRun(t, "a wrong rain ahead of what is over", full, [][]int64{one, bad, two}, riverFault(impl.ErrForm))
}

func TestRiverRunSize(t *testing.T) {
	one := []impl.Reach{{Down: -1, Take: 2, Least: 1}}
	rains := func(count int, rain ...int64) [][]int64 {
		return slices.Repeat([][]int64{rain}, count)
	}
	long := chain(impl.MaxList+1, impl.Reach{})
	full := []impl.Reach{{Store: impl.MaxWater, Keep: 1000, Down: -1}}
	sameRun(t, "MaxSteps", one, rains(impl.MaxSteps, 5), impl.RiverOut{List: one, Flows: []int64{3 * impl.MaxSteps}, Taken: []int64{2 * impl.MaxSteps}, Sea: 3 * impl.MaxSteps})
	sameRun(t, "one step more", one, rains(impl.MaxSteps+1, 5), riverFault(impl.ErrSize))
	sameRun(t, "MaxList steps", one, rains(impl.MaxList, 5), riverFault(impl.ErrSize))
	sameRun(t, "more than MaxList steps", one, rains(impl.MaxList+1, 5), riverFault(impl.ErrSize))
	sameRun(t, "too many steps of wrong rain", one, rains(impl.MaxSteps+1, -1), riverFault(impl.ErrSize))
	sameRun(t, "too many steps of no rain", one, make([][]int64, impl.MaxSteps+1), riverFault(impl.ErrSize))
	sameRun(t, "too many steps that are over", full, rains(impl.MaxSteps+1, 5), riverFault(impl.ErrSize))
	sameRun(t, "MaxSteps that are over", full, rains(impl.MaxSteps, 5), riverFault(impl.ErrOver))
	sameRun(t, "too many steps of no river", nil, rains(impl.MaxSteps+1, 5), riverFault(impl.ErrSize))
	sameRun(t, "too many reaches", long, [][]int64{noRain(impl.MaxList + 1)}, riverFault(impl.ErrSize))
	sameRun(t, "too many reaches, no steps", long, nil, riverFault(impl.ErrSize))
	sameRun(t, "MaxList reaches", long[:impl.MaxList], nil, riverFault(impl.ErrForm))
}

func TestRiverRunOfTheMost(t *testing.T) {
	list := chain(impl.MaxReaches, impl.Reach{Store: impl.MaxWater, Take: impl.MaxFlow, Least: impl.MaxFlow})
	rains := slices.Repeat([][]int64{slices.Repeat([]int64{impl.MaxFlow}, impl.MaxReaches)}, impl.MaxSteps)
	got := impl.RiverRun(list, rains)
	sameRiver(t, "all at their most", got, plainRun(list, rains))
	if got.Code != impl.OK || got.Sea < impl.MaxReaches*(impl.MaxWater-impl.MaxFlow) {
		t.Errorf("all at their most: got %+v", got)
	}
}

func TestRiverRunNewMemory(t *testing.T) {
	rain := []int64{1, 2, 3, 4, 5, 6}
	for _, rains := range [][][]int64{nil, {rain}, {rain, rain}, {noRain(6)}} {
		list := forks()
		ownMemory(t, "RiverRun", func() impl.RiverOut { return impl.RiverRun(list, rains) })
		if !slices.Equal(list, forks()) || !slices.Equal(rain, []int64{1, 2, 3, 4, 5, 6}) {
			t.Error("RiverRun: an answer shares memory with what was handed in")
		}
	}
}
