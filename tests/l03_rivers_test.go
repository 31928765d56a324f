package tests

import (
	"math"
	"math/rand"
	"slices"
	"strconv"
	"testing"

	"loop.example/g00068/impl"
)

// chain is a river of so many alike reaches, each above the next one, the last one above the sea.
func chain(count int, each impl.Reach) []impl.Reach {
	list := make([]impl.Reach, count)
	for i := range list {
		list[i] = each
		list[i].Down = int64(i + 1)
	}
	if count > 0 {
		list[count-1].Down = -1
	}
	return list
}

// forks is a river whose reaches 0 and 1 flow to 3, 2 to 4, 3 to 5, and 4 and 5 to the sea.
func forks() []impl.Reach {
	return []impl.Reach{
		{Store: 1000, Keep: 900, Down: 3, Take: 10, Least: 50},
		{Store: 0, Keep: 500, Down: 3, Take: 20, Least: 0},
		{Store: 333, Keep: 333, Down: 4, Take: 1000, Least: 100},
		{Store: 7, Keep: 1000, Down: 5, Take: 5, Least: 5},
		{Store: 10, Keep: 0, Down: -1, Take: 0, Least: 1000000},
		{Store: 1, Keep: 1, Down: -1, Take: 1000000, Least: 0},
	}
}

func decimal(n int64) string {
	return strconv.FormatInt(n, 10)
}

// with has one of a river's reaches changed.
func with(list []impl.Reach, place int, change func(*impl.Reach)) []impl.Reach {
	list = slices.Clone(list)
	change(&list[place])
	return list
}

func noRain(count int) []int64 {
	return make([]int64, count)
}

func sameRiver(t *testing.T, what string, got impl.RiverOut, want impl.RiverOut) {
	t.Helper()
	if got.Code != want.Code || got.Sea != want.Sea || !slices.Equal(got.List, want.List) ||
		!slices.Equal(got.Flows, want.Flows) || !slices.Equal(got.Taken, want.Taken) {
		t.Errorf("%s: got %+v, want %+v", what, got, want)
	}
}

// sameStep also holds what was handed in against what it was.
func sameStep(t *testing.T, what string, list []impl.Reach, rain []int64, want impl.RiverOut) {
	t.Helper()
	listBefore, rainBefore := slices.Clone(list), slices.Clone(rain)
	sameRiver(t, "RiverStep, "+what, impl.RiverStep(list, rain), want)
	if !slices.Equal(list, listBefore) || !slices.Equal(rain, rainBefore) {
		t.Errorf("RiverStep, %s: what was handed in was changed", what)
	}
}

func riverFault(code int64) impl.RiverOut {
	return impl.RiverOut{Code: code}
}

// plainFlow goes up from a reach to all that flows to it, word by word as chapter 4 has a step.
func plainFlow(list []impl.Reach, rain []int64, place int) (stays int64, taken int64, flows int64) {
	water := list[place].Store + rain[place]
	for i := range list {
		if list[i].Down == int64(place) {
			_, _, more := plainFlow(list, rain, i)
			water += more
		}
	}
	stays = (water*list[place].Keep - water*list[place].Keep%1000) / 1000
	flows = water - stays
	for taken < list[place].Take && flows > list[place].Least {
		part := min(list[place].Take-taken, flows-list[place].Least)
		taken += part
		flows -= part
	}
	return stays, taken, flows
}

func plainStep(list []impl.Reach, rain []int64) impl.RiverOut {
	out := impl.RiverOut{List: slices.Clone(list), Flows: noRain(len(list)), Taken: noRain(len(list))}
	for i := range list {
		out.List[i].Store, out.Taken[i], out.Flows[i] = plainFlow(list, rain, i)
		if out.List[i].Store > impl.MaxWater {
			return riverFault(impl.ErrOver)
		}
		if list[i].Down == -1 {
			out.Sea += out.Flows[i]
		}
	}
	return out
}

// anyNumber is often one of both ends.
func anyNumber(random *rand.Rand, most int64) int64 {
	switch random.Intn(6) {
	case 0:
		return 0
	case 1:
		return most
	case 2:
		return random.Int63n(min(most, 50) + 1)
	}
	return random.Int63n(most + 1)
}

func anyRiver(random *rand.Rand, most int) []impl.Reach {
	list := make([]impl.Reach, 1+random.Intn(most))
	great := int64(impl.MaxWater)
	if random.Intn(3) > 0 {
		great = 5000
	}
	for i := range list {
		down := int64(i) + 1 + random.Int63n(int64(min(4, len(list)-i)))
		if down >= int64(len(list)) || random.Intn(8) == 0 {
			down = -1
		}
		list[i] = impl.Reach{Store: anyNumber(random, great), Keep: anyNumber(random, 1000), Down: down,
			Take: anyNumber(random, min(great, impl.MaxFlow)), Least: anyNumber(random, min(great, impl.MaxFlow))}
	}
	return list
}

func anyRain(random *rand.Rand, count int) []int64 {
	rain := noRain(count)
	for i := range rain {
		rain[i] = anyNumber(random, impl.MaxFlow)
	}
	return rain
}

// wrongRivers are not right, but none is too long to be handed in.
func wrongRivers() map[string][]impl.Reach {
	least, most := int64(math.MinInt64), int64(math.MaxInt64)
	wrong := map[string][]impl.Reach{
		"none":               nil,
		"empty":              {},
		"one reach too many": chain(impl.MaxReaches+1, impl.Reach{}),
		"MaxList reaches":    chain(impl.MaxList, impl.Reach{}),
		"all noughts":        {{}},
	}
	for place, where := range map[int]string{0: "first", 3: "middle", 5: "last"} {
		for _, n := range []int64{-1, impl.MaxWater + 1, least, most} {
			wrong["a Store, "+where+", "+decimal(n)] = with(forks(), place, func(r *impl.Reach) { r.Store = n })
		}
		for _, n := range []int64{-1, 1001, least, most} {
			wrong["a Keep, "+where+", "+decimal(n)] = with(forks(), place, func(r *impl.Reach) { r.Keep = n })
		}
		for _, n := range []int64{-1, impl.MaxFlow + 1, least, most} {
			wrong["a Take, "+where+", "+decimal(n)] = with(forks(), place, func(r *impl.Reach) { r.Take = n })
			wrong["a Least, "+where+", "+decimal(n)] = with(forks(), place, func(r *impl.Reach) { r.Least = n })
		}
		for _, n := range []int64{-2, 0, int64(place), int64(place) - 2, 6, 7, impl.MaxReaches, 1 << 32, least, most} {
			wrong["a Down, "+where+", "+decimal(n)] = with(forks(), place, func(r *impl.Reach) { r.Down = n })
		}
	}
	return wrong
}

func TestRiverRight(t *testing.T) {
	right := map[string][]impl.Reach{
		"one reach":          {{Down: -1}},
		"MaxReaches":         chain(impl.MaxReaches, impl.Reach{}),
		"forks":              forks(),
		"all at their most":  chain(impl.MaxReaches, impl.Reach{Store: impl.MaxWater, Keep: 1000, Take: impl.MaxFlow, Least: impl.MaxFlow}),
		"all to the sea":     {{Down: -1}, {Down: -1}, {Down: -1}},
		"over some":          {{Down: 2}, {Down: -1}, {Down: -1}},
		"two at their least": {{Down: 1}, {Down: -1}},
	}
	for what, list := range right {
		if !impl.RiverRight(list) {
			t.Errorf("%s: RiverRight is false", what)
		}
	}
	for what, list := range wrongRivers() {
		if impl.RiverRight(list) {
			t.Errorf("%s: RiverRight is true", what)
		}
	}
	if impl.RiverRight(chain(impl.MaxList+1, impl.Reach{})) {
		t.Error("more than MaxList: RiverRight is true")
	}
}

func TestRiverRightDowns(t *testing.T) {
	for place := range 6 {
		for down := int64(-3); down < 9; down++ {
			list := with(forks(), place, func(r *impl.Reach) { r.Down = down })
			want := down == -1 || down > int64(place) && down < 6
			if impl.RiverRight(list) != want {
				t.Errorf("Down of reach %d is %d: RiverRight is %v", place, down, !want)
			}
		}
	}
}

func TestRiverStepOneReach(t *testing.T) {
	for _, c := range []struct {
		what                string
		reach               impl.Reach
		rain                int64
		stays, taken, flows int64
	}{
		{"nothing", impl.Reach{}, 0, 0, 0, 0},
		{"rain alone", impl.Reach{}, 9, 0, 0, 9},
		{"store and rain", impl.Reach{Store: 5, Keep: 1000}, 9, 14, 0, 0},
		{"none stays", impl.Reach{Store: 5, Keep: 0}, 9, 0, 0, 14},
		{"what stays is rounded down", impl.Reach{Store: 3, Keep: 500}, 0, 1, 0, 2},
		{"one of two stays", impl.Reach{Store: 1, Keep: 500}, 1, 1, 0, 1},
		{"just below one stays", impl.Reach{Store: 1, Keep: 999}, 0, 0, 0, 1},
		{"rounded once, of store and rain together", impl.Reach{Store: 1, Keep: 600}, 1, 1, 0, 1},
		{"all of Take", impl.Reach{Store: 100, Take: 30, Least: 20}, 0, 0, 30, 70},
		{"Take as the whole above Least", impl.Reach{Store: 100, Take: 80, Least: 20}, 0, 0, 80, 20},
		{"one more than is above Least", impl.Reach{Store: 100, Take: 81, Least: 20}, 0, 0, 80, 20},
		{"one less", impl.Reach{Store: 100, Take: 79, Least: 20}, 0, 0, 79, 21},
		{"just Least", impl.Reach{Store: 20, Take: 81, Least: 20}, 0, 0, 0, 20},
		{"one above Least", impl.Reach{Store: 20, Take: 81, Least: 20}, 1, 0, 1, 20},
		{"less than Least", impl.Reach{Store: 19, Take: 81, Least: 20}, 0, 0, 0, 19},
		{"Least is of what is given, not of what stays", impl.Reach{Store: 100, Keep: 500, Take: 81, Least: 20}, 0, 50, 30, 20},
		{"what stays is not taken", impl.Reach{Store: 100, Keep: 1000, Take: 81}, 0, 100, 0, 0},
		{"no Least", impl.Reach{Store: 10, Take: 81}, 0, 0, 10, 0},
		{"the most of all, none stays", impl.Reach{Store: impl.MaxWater, Take: impl.MaxFlow, Least: impl.MaxFlow}, impl.MaxFlow, 0, impl.MaxFlow, impl.MaxWater},
		{"full, and no rain", impl.Reach{Store: impl.MaxWater, Keep: 1000}, 0, impl.MaxWater, 0, 0},
		{"full behind rain", impl.Reach{Store: impl.MaxWater - impl.MaxFlow, Keep: 1000}, impl.MaxFlow, impl.MaxWater, 0, 0},
	} {
		c.reach.Down = -1
		behind := c.reach
		behind.Store = c.stays
		sameStep(t, c.what, []impl.Reach{c.reach}, []int64{c.rain},
			impl.RiverOut{List: []impl.Reach{behind}, Flows: []int64{c.flows}, Taken: []int64{c.taken}, Sea: c.flows})
	}
}

func TestRiverStepForks(t *testing.T) {
	want := forks()
	for i, store := range []int64{990, 25, 110, 112, 0, 0} {
		want[i].Store = store
	}
	sameStep(t, "forks", forks(), []int64{100, 50, 0, 0, 4, 600}, impl.RiverOut{
		List: want, Flows: []int64{100, 5, 100, 0, 114, 0}, Taken: []int64{10, 20, 123, 0, 0, 601}, Sea: 114,
	})
	drained := chain(impl.MaxReaches, impl.Reach{})
	flows := slices.Repeat([]int64{5}, impl.MaxReaches)
	rain := noRain(impl.MaxReaches)
	rain[0] = 5
	sameStep(t, "rain runs down all in one step", drained, rain,
		impl.RiverOut{List: drained, Flows: flows, Taken: noRain(impl.MaxReaches), Sea: 5})
}

func TestRiverStepOfAnyRiver(t *testing.T) {
	random := rand.New(rand.NewSource(6))
	over := 0
	for range 3000 {
		list := anyRiver(random, 12)
		rain := anyRain(random, len(list))
		want := plainStep(list, rain)
		sameStep(t, "any river", list, rain, want)
		if want.Code == impl.ErrOver {
			over++
		}
	}
	if over < 100 || over > 2500 {
		t.Errorf("%d of 3000 are refused: too few or too many to tell", over)
	}
}

func TestRiverStepForm(t *testing.T) {
	for what, list := range wrongRivers() {
		sameStep(t, what, list, noRain(len(list)), riverFault(impl.ErrForm))
		sameStep(t, what+", and rain", list, slices.Repeat([]int64{impl.MaxFlow}, len(list)), riverFault(impl.ErrForm))
	}
	full := chain(6, impl.Reach{Store: impl.MaxWater, Keep: 1000})
	for _, list := range [][]impl.Reach{forks(), full} {
		for _, count := range []int{0, 1, 5, 7, impl.MaxReaches, impl.MaxReaches + 1, impl.MaxList} {
			sameStep(t, "rain of another length", list, slices.Repeat([]int64{1}, count), riverFault(impl.ErrForm))
		}
		sameStep(t, "no rain", list, nil, riverFault(impl.ErrForm))
		for place := range 6 {
			for _, n := range []int64{-1, impl.MaxFlow + 1, impl.MaxWater, math.MinInt64, math.MaxInt64} {
				rain := slices.Repeat([]int64{1}, 6)
				rain[place] = n
				sameStep(t, "wrong rain", list, rain, riverFault(impl.ErrForm))
			}
		}
	}
	one := []impl.Reach{{Down: -1}}
	sameStep(t, "rain at its most", one, []int64{impl.MaxFlow}, impl.RiverOut{List: one, Flows: []int64{impl.MaxFlow}, Taken: []int64{0}, Sea: impl.MaxFlow})
}

func TestRiverStepOver(t *testing.T) {
	full := impl.Reach{Store: impl.MaxWater, Keep: 1000, Down: -1}
	sameStep(t, "one too much", []impl.Reach{full}, []int64{1}, riverFault(impl.ErrOver))
	for place := range 3 {
		list := []impl.Reach{{Down: -1}, {Down: -1}, {Down: -1}}
		list[place] = full
		rain := noRain(3)
		rain[place] = 1
		sameStep(t, "one too much at a place", list, rain, riverFault(impl.ErrOver))
		rain = slices.Repeat([]int64{1}, 3)
		rain[place] = 0
		flows := slices.Clone(rain)
		sameStep(t, "as much as can be at a place", list, rain, impl.RiverOut{List: list, Flows: flows, Taken: noRain(3), Sea: 2})
	}
	above := []impl.Reach{{Store: 2, Down: 1, Take: 1}, full}
	sameStep(t, "one too much from above", above, noRain(2), riverFault(impl.ErrOver))
	above[0].Take = 2
	behind := []impl.Reach{{Down: 1, Take: 2}, full}
	sameStep(t, "all above is taken", above, noRain(2), impl.RiverOut{List: behind, Flows: noRain(2), Taken: []int64{2, 0}})
	most := chain(impl.MaxReaches, impl.Reach{Store: impl.MaxWater})
	most[impl.MaxReaches-1].Keep = 1000
	rain := slices.Repeat([]int64{impl.MaxFlow}, impl.MaxReaches)
	sameStep(t, "all water of the river", most, rain, riverFault(impl.ErrOver))
	most[impl.MaxReaches-1].Keep = 24
	if got := impl.RiverStep(most, rain); got.Code != impl.OK || got.List[impl.MaxReaches-1].Store != 960960000 || got.Sea != 39079040000 {
		t.Errorf("a part of all water of the river: got %+v", got)
	}
}

func TestRiverStepSize(t *testing.T) {
	long := chain(impl.MaxList+1, impl.Reach{})
	sameStep(t, "too many reaches", long, noRain(impl.MaxList+1), riverFault(impl.ErrSize))
	sameStep(t, "too many reaches, no rain", long, nil, riverFault(impl.ErrSize))
	sameStep(t, "too much rain", forks(), noRain(impl.MaxList+1), riverFault(impl.ErrSize))
	sameStep(t, "too much rain that is wrong", forks(), slices.Repeat([]int64{-1}, impl.MaxList+1), riverFault(impl.ErrSize))
	sameStep(t, "too much rain on no river", nil, noRain(impl.MaxList+1), riverFault(impl.ErrSize))
	sameStep(t, "too much rain on a river that is not right", []impl.Reach{{}}, noRain(impl.MaxList+1), riverFault(impl.ErrSize))
	full := []impl.Reach{{Store: impl.MaxWater, Keep: 1000, Down: -1}}
	sameStep(t, "too much rain on a full river", full, slices.Repeat([]int64{1}, impl.MaxList+1), riverFault(impl.ErrSize))
	sameStep(t, "MaxList reaches", long[:impl.MaxList], noRain(impl.MaxList), riverFault(impl.ErrForm))
}

// spoil writes over all that an answer has, and behind it.
func spoil(out impl.RiverOut) {
	for i := range out.List {
		out.List[i] = impl.Reach{Store: -9, Down: -9}
	}
	for _, list := range [][]int64{out.Flows, out.Taken} {
		for i := range list {
			list[i] = -9
		}
	}
	_ = append(out.List, impl.Reach{Store: -9})
	_, _ = append(out.Flows, -9), append(out.Taken, -9)
}

// ownMemory asks that no list of an answer shows what is written to another one.
func ownMemory(t *testing.T, what string, call func() impl.RiverOut) {
	t.Helper()
	want, got := call(), call()
	spoil(impl.RiverOut{List: got.List})
	sameRiver(t, what+", List spoilt", impl.RiverOut{Flows: got.Flows, Taken: got.Taken}, impl.RiverOut{Flows: want.Flows, Taken: want.Taken})
	got = call()
	spoil(impl.RiverOut{Flows: got.Flows})
	sameRiver(t, what+", Flows spoilt", impl.RiverOut{List: got.List, Taken: got.Taken}, impl.RiverOut{List: want.List, Taken: want.Taken})
	got = call()
	spoil(impl.RiverOut{Taken: got.Taken})
	sameRiver(t, what+", Taken spoilt", impl.RiverOut{List: got.List, Flows: got.Flows}, impl.RiverOut{List: want.List, Flows: want.Flows})
	spoil(got)
	sameRiver(t, what+", once more", call(), want)
}

func TestRiverStepNewMemory(t *testing.T) {
	for _, rain := range [][]int64{noRain(6), {1, 2, 3, 4, 5, 6}} {
		list, before := forks(), slices.Clone(rain)
		ownMemory(t, "RiverStep", func() impl.RiverOut { return impl.RiverStep(list, rain) })
		if !slices.Equal(list, forks()) || !slices.Equal(rain, before) {
			t.Error("RiverStep: an answer shares memory with what was handed in")
		}
	}
	room := append(make([]int64, 0, 20), 1, 2, 3, 4, 5, 6)
	beyond := room[:20]
	spoil(impl.RiverStep(forks(), room))
	if !slices.Equal(beyond[6:], noRain(14)) {
		t.Error("RiverStep: an answer has room behind the rain that was handed in")
	}
}
