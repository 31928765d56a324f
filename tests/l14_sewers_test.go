package tests

import (
	"math"
	"math/rand"
	"slices"
	"testing"

	"loop.example/g00068/impl"
)

// drains go from 0 and 1 to 2, from 2 and 4 to 5, and from 3 and 5 to the works.
func drains() []impl.Sewer {
	return []impl.Sewer{
		{Kind: impl.KindFree, Room: 5, Flow: 10, Lip: 7, Down: 2},
		{Kind: impl.KindFull, Store: 4, Room: 9, Flow: 7, Down: 2},
		{Kind: impl.KindDip, Store: 3, Room: 8, Flow: 12, Lip: 6, Down: 5},
		{Kind: impl.KindFull, Store: 2, Room: 2, Flow: 2, Lip: 9, Down: -1},
		{Kind: impl.KindFree, Store: 1, Room: 1, Down: 5},
		{Kind: impl.KindDip, Flow: impl.MaxFlow, Down: -1},
	}
}

// drainsHolding are the drains with other Stores.
func drainsHolding(stores ...int64) []impl.Sewer {
	list := drains()
	for place, store := range stores {
		list[place].Store = store
	}
	return list
}

// changedSewers is a copy of a list but for what is changed of one of them.
func changedSewers(list []impl.Sewer, place int, change func(s *impl.Sewer)) []impl.Sewer {
	list = slices.Clone(list)
	change(&list[place])
	return list
}

// sewerRow is so many alike sewers, each above the next one, the last one above the works.
func sewerRow(count int, each impl.Sewer) []impl.Sewer {
	list := slices.Repeat([]impl.Sewer{each}, count)
	for place := range list {
		list[place].Down = int64(place + 1)
	}
	if count > 0 {
		list[count-1].Down = -1
	}
	return list
}

func sewerFault(code int64) impl.SewerOut {
	return impl.SewerOut{Code: code}
}

func sameSewers(t *testing.T, what string, got impl.SewerOut, want impl.SewerOut) {
	t.Helper()
	if got.Code != want.Code || got.End != want.End || !slices.Equal(got.List, want.List) ||
		!slices.Equal(got.Flows, want.Flows) || !slices.Equal(got.Spill, want.Spill) {
		t.Errorf("%s: got %+v, want %+v", what, got, want)
	}
}

// watchedSewers calls with sewers of its own, with room behind them, and tells if these were changed.
func watchedSewers(t *testing.T, what string, list []impl.Sewer, call func(list []impl.Sewer)) {
	t.Helper()
	behind := impl.Sewer{Kind: -7, Store: -7, Down: -7}
	given := slices.Concat(list, []impl.Sewer{behind})
	if list == nil {
		call(nil)
	} else {
		call(given[:len(list)])
	}
	if !slices.Equal(given[:len(list)], list) || given[len(list)] != behind {
		t.Errorf("%s: the sewers were changed", what)
	}
}

func sameSewerStep(t *testing.T, what string, list []impl.Sewer, storm []int64, want impl.SewerOut) {
	t.Helper()
	given := roomyPlaces(storm)
	watchedSewers(t, "SewerStep, "+what, list, func(list []impl.Sewer) {
		sameSewers(t, "SewerStep, "+what, impl.SewerStep(list, given), want)
	})
	if !keptPlaces(given, storm) {
		t.Errorf("SewerStep, %s: the storm was changed", what)
	}
}

// wrongSewers are right but for what their names say; none is too long to be handed in.
func wrongSewers() map[string][]impl.Sewer {
	wrong := map[string][]impl.Sewer{
		"none":               nil,
		"empty":              {},
		"all noughts":        {{}},
		"one sewer too many": sewerRow(impl.MaxReaches+1, impl.Sewer{Kind: impl.KindFree}),
		"MaxList sewers":     sewerRow(impl.MaxList, impl.Sewer{Kind: impl.KindFree}),
	}
	for place, where := range map[int]string{0: "first", 3: "middle", 5: "last"} {
		add := func(what string, change func(s *impl.Sewer)) {
			wrong["the "+where+" one's "+what] = changedSewers(drains(), place, change)
		}
		for what, n := range beside(impl.KindFree, impl.KindDip) {
			add("Kind is "+what, func(s *impl.Sewer) { s.Kind = n })
		}
		for what, n := range beside(0, impl.MaxFlow) {
			add("Room is "+what, func(s *impl.Sewer) { s.Store, s.Room = 0, n })
			add("Room and Store are "+what, func(s *impl.Sewer) { s.Store, s.Room = n, n })
			add("Flow is "+what, func(s *impl.Sewer) { s.Flow = n })
			add("Lip is "+what, func(s *impl.Sewer) { s.Lip = n })
			add("Store is "+what+" of a great one", func(s *impl.Sewer) { s.Store, s.Room = n, impl.MaxFlow })
		}
		for what, n := range beside(0, drains()[place].Room) {
			add("Store is "+what, func(s *impl.Sewer) { s.Store = n })
		}
		for _, n := range []int64{-2, 0, int64(place), int64(place) - 2, 6, 7, impl.MaxReaches, 1 << 32, math.MinInt64, math.MaxInt64} {
			add("Down is "+decimal(n), func(s *impl.Sewer) { s.Down = n })
		}
	}
	return wrong
}

// rightSewers are at the limits, or of little.
func rightSewers() map[string][]impl.Sewer {
	most := impl.Sewer{Kind: impl.KindFull, Store: impl.MaxFlow, Room: impl.MaxFlow, Flow: impl.MaxFlow, Lip: impl.MaxFlow}
	return map[string][]impl.Sewer{
		"drains":              drains(),
		"MaxReaches":          sewerRow(impl.MaxReaches, impl.Sewer{Kind: impl.KindFree}),
		"all at their most":   sewerRow(impl.MaxReaches, most),
		"a free one":          {{Kind: impl.KindFree, Down: -1}},
		"a full one":          {{Kind: impl.KindFull, Down: -1}},
		"a dip":               {{Kind: impl.KindDip, Down: -1}},
		"all to the works":    {{Kind: impl.KindDip, Down: -1}, {Kind: impl.KindFull, Down: -1}, {Kind: impl.KindFree, Down: -1}},
		"over one":            {{Kind: impl.KindFree, Down: 2}, {Kind: impl.KindFree, Down: -1}, {Kind: impl.KindFree, Down: -1}},
		"Store as Room":       {{Kind: impl.KindFree, Store: 3, Room: 3, Down: -1}},
		"a Lip above a Room":  {{Kind: impl.KindDip, Room: 3, Lip: 4, Down: -1}},
		"a Flow above a Room": {{Kind: impl.KindFull, Room: 3, Flow: 4, Down: -1}},
	}
}

func sameSewersRight(t *testing.T, what string, list []impl.Sewer, want bool) {
	t.Helper()
	watchedSewers(t, "SewersRight, "+what, list, func(list []impl.Sewer) {
		if got := impl.SewersRight(list); got != want {
			t.Errorf("SewersRight, %s: got %v, want %v", what, got, want)
		}
	})
}

func TestSewersRight(t *testing.T) {
	for what, list := range rightSewers() {
		sameSewersRight(t, what, list, true)
	}
	for what, list := range wrongSewers() {
		sameSewersRight(t, what, list, false)
	}
	sameSewersRight(t, "more than MaxList", sewerRow(impl.MaxList+1, impl.Sewer{Kind: impl.KindFree}), false)
}

func TestSewersRightDowns(t *testing.T) {
	for place := range 6 {
		for down := int64(-3); down < 9; down++ {
			list := changedSewers(drains(), place, func(s *impl.Sewer) { s.Down = down })
			sameSewersRight(t, "Down of "+decimal(int64(place))+" is "+decimal(down), list, down == -1 || down > int64(place) && down < 6)
		}
	}
}

func TestSewerStepOneSewer(t *testing.T) {
	const most = impl.MaxFlow
	free := func(store int64, room int64, flow int64) impl.Sewer {
		return impl.Sewer{Kind: impl.KindFree, Store: store, Room: room, Flow: flow, Lip: 2}
	}
	full := func(store int64, room int64, flow int64) impl.Sewer {
		return impl.Sewer{Kind: impl.KindFull, Store: store, Room: room, Flow: flow, Lip: 2}
	}
	dip := func(store int64, room int64, flow int64, lip int64) impl.Sewer {
		return impl.Sewer{Kind: impl.KindDip, Store: store, Room: room, Flow: flow, Lip: lip}
	}
	for _, c := range []struct {
		what             string
		sewer            impl.Sewer
		storm            int64
		on, spilt, stays int64
	}{
		{"free, nothing", free(0, 0, 0), 0, 0, 0, 0},
		{"free, less than Flow", free(4, 9, 10), 5, 9, 0, 0},
		{"free, as much as Flow", free(5, 9, 10), 5, 10, 0, 0},
		{"free, one above Flow", free(6, 9, 10), 5, 10, 0, 1},
		{"free, just Room is left", free(9, 9, 10), 10, 10, 0, 9},
		{"free, one above Room", free(9, 9, 10), 11, 10, 1, 9},
		{"free, no Room", free(0, 0, 10), 11, 10, 1, 0},
		{"free, no Flow", free(9, 9, 0), 5, 0, 5, 9},
		{"free, all at its most", free(most, most, most), most, most, 0, most},
		{"full, nothing", full(0, 0, 0), 0, 0, 0, 0},
		{"full, a share", full(3, 9, 7), 2, 3, 0, 2},
		{"full, a share rounded down", full(0, 9, 3), 3, 0, 0, 3},
		{"full, a share of Room and 1, not of Room", full(0, 9, 9), 9, 8, 0, 1},
		{"full, as much as Room and 1", full(5, 9, 7), 5, 7, 0, 3},
		{"full, one less", full(5, 9, 7), 4, 6, 0, 3},
		{"full, more: no more than Flow", full(5, 9, 7), 20, 7, 9, 9},
		{"full, no more than the water", full(2, 3, 100), 1, 3, 0, 0},
		{"full, a share just as the water", full(2, 3, 4), 1, 3, 0, 0},
		{"full, a share just below the water", full(2, 3, 3), 1, 2, 0, 1},
		{"full, no Room", full(0, 0, 3), 5, 3, 2, 0},
		{"full, no Room, and no more than Flow", full(0, 0, 5), 3, 3, 0, 0},
		{"full, no Flow", full(9, 9, 0), 5, 0, 5, 9},
		{"full, all at its most", full(most, most, most), most, most, 0, most},
		{"full, all but its storm at its most", full(most, most, most), 0, most - 1, 0, 1},
		{"full, a great share without Room", full(0, 0, most), most, most, 0, 0},
		{"a dip, nothing", dip(0, 0, 0, 0), 0, 0, 0, 0},
		{"a dip, below its Lip", dip(3, 9, 10, 6), 2, 0, 0, 5},
		{"a dip, just at its Lip", dip(3, 9, 10, 6), 3, 0, 0, 6},
		{"a dip, one above its Lip", dip(3, 9, 10, 6), 4, 1, 0, 6},
		{"a dip, Flow above its Lip", dip(6, 9, 10, 6), 10, 10, 0, 6},
		{"a dip, one more", dip(6, 9, 10, 6), 11, 10, 0, 7},
		{"a dip, just Room is left", dip(6, 9, 10, 6), 13, 10, 0, 9},
		{"a dip, one above Room", dip(6, 9, 10, 6), 14, 10, 1, 9},
		{"a dip, no Lip", dip(6, 9, 10, 0), 3, 9, 0, 0},
		{"a dip, no Flow", dip(9, 9, 0, 2), 5, 0, 5, 9},
		{"a dip, its Lip above its Room", dip(3, 3, 10, 8), 5, 0, 5, 3},
		{"a dip, above both", dip(3, 3, 10, 8), 6, 1, 5, 3},
		{"a dip, all at its most", dip(most, most, most, most), most, most, 0, most},
	} {
		c.sewer.Down = -1
		behind := c.sewer
		behind.Store = c.stays
		sameSewerStep(t, c.what, []impl.Sewer{c.sewer}, []int64{c.storm},
			impl.SewerOut{List: []impl.Sewer{behind}, Flows: []int64{c.on}, Spill: []int64{c.spilt}, End: c.on})
	}
}

func TestSewerStepByHand(t *testing.T) {
	sameSewerStep(t, "a storm", drains(), []int64{20, 6, 1, 7, 3, 4}, impl.SewerOut{
		List: drainsHolding(5, 3, 8, 2, 1, 0), Flows: []int64{10, 7, 12, 2, 0, 16}, Spill: []int64{5, 0, 1, 5, 3, 0}, End: 18})
	sameSewerStep(t, "dry behind it", drainsHolding(5, 3, 8, 2, 1, 0), numbers(0, 6), impl.SewerOut{
		List: drainsHolding(0, 1, 6, 1, 1, 0), Flows: []int64{5, 2, 9, 1, 0, 9}, Spill: numbers(0, 6), End: 10})
	row := sewerRow(impl.MaxReaches, impl.Sewer{Kind: impl.KindFree, Flow: 5})
	storm := numbers(0, impl.MaxReaches)
	storm[0] = 8
	spill := numbers(0, impl.MaxReaches)
	spill[0] = 3
	sameSewerStep(t, "down all in one step", row, storm, impl.SewerOut{List: row, Flows: numbers(5, impl.MaxReaches), Spill: spill, End: 5})
}

// TestSewerStepOfTheMost has all water come into the last one, whose share is as great a product as can be.
func TestSewerStepOfTheMost(t *testing.T) {
	const most = impl.MaxFlow
	list := slices.Repeat([]impl.Sewer{{Kind: impl.KindFree, Store: most, Room: most, Flow: most, Down: impl.MaxReaches - 1}}, impl.MaxReaches)
	list[impl.MaxReaches-1] = impl.Sewer{Kind: impl.KindFull, Flow: most, Down: -1}
	flows, spill := numbers(most, impl.MaxReaches), numbers(0, impl.MaxReaches)
	spill[impl.MaxReaches-1] = (impl.MaxReaches - 1) * most
	storm := numbers(most, impl.MaxReaches)
	sameSewerStep(t, "no Room", list, storm, impl.SewerOut{List: list, Flows: flows, Spill: spill, End: most})
	last := &list[impl.MaxReaches-1]
	last.Store, last.Room = most, most
	sameSewerStep(t, "full", list, storm, impl.SewerOut{List: list, Flows: flows, Spill: spill, End: most})
	last.Kind, last.Lip = impl.KindDip, most
	sameSewerStep(t, "a dip", list, storm, impl.SewerOut{List: list, Flows: flows, Spill: spill, End: most})
}

func TestSewerStepForm(t *testing.T) {
	for what, list := range wrongSewers() {
		sameSewerStep(t, what, list, numbers(0, len(list)), sewerFault(impl.ErrForm))
		sameSewerStep(t, what+", and a storm", list, numbers(impl.MaxFlow, len(list)), sewerFault(impl.ErrForm))
		sameSewerStep(t, what+", and a wrong storm", list, []int64{-1}, sewerFault(impl.ErrForm))
	}
	for _, count := range []int{0, 1, 5, 7, impl.MaxReaches, impl.MaxReaches + 1, impl.MaxList} {
		sameSewerStep(t, "a storm of another length", drains(), numbers(1, count), sewerFault(impl.ErrForm))
	}
	sameSewerStep(t, "no storm", drains(), nil, sewerFault(impl.ErrForm))
	for place := range 6 {
		for what, n := range beside(0, impl.MaxFlow) {
			storm := numbers(1, 6)
			storm[place] = n
			sameSewerStep(t, "a wrong storm, "+what, drains(), storm, sewerFault(impl.ErrForm))
		}
		storm := numbers(0, 6)
		storm[place] = impl.MaxFlow
		sameSewerStep(t, "a storm at its most", drains(), storm, plainSewerStep(drains(), storm))
	}
}

func TestSewerStepSize(t *testing.T) {
	long := sewerRow(impl.MaxList+1, impl.Sewer{Kind: impl.KindFree})
	sameSewerStep(t, "too many sewers", long, numbers(0, impl.MaxList+1), sewerFault(impl.ErrSize))
	sameSewerStep(t, "too many sewers, no storm", long, nil, sewerFault(impl.ErrSize))
	sameSewerStep(t, "too many sewers that are wrong", make([]impl.Sewer, impl.MaxList+1), []int64{-1}, sewerFault(impl.ErrSize))
	sameSewerStep(t, "too long a storm", drains(), numbers(0, impl.MaxList+1), sewerFault(impl.ErrSize))
	sameSewerStep(t, "too long a storm that is wrong", drains(), numbers(-1, impl.MaxList+1), sewerFault(impl.ErrSize))
	sameSewerStep(t, "too long a storm on nothing", nil, numbers(0, impl.MaxList+1), sewerFault(impl.ErrSize))
	for what, list := range wrongSewers() {
		sameSewerStep(t, "too long a storm, "+what, list, numbers(0, impl.MaxList+1), sewerFault(impl.ErrSize))
	}
	sameSewerStep(t, "MaxList sewers", long[:impl.MaxList], numbers(0, impl.MaxList), sewerFault(impl.ErrForm))
}

// plainOn says chapter 15 by cases, none of which goes by another one.
func plainOn(s impl.Sewer, water int64) (int64, string) {
	switch {
	case s.Kind == 1 && water < s.Flow:
		return water, "free, by the water"
	case s.Kind == 1:
		return s.Flow, "free, by Flow"
	case s.Kind == 3 && water <= s.Lip:
		return 0, "a dip, below its Lip"
	case s.Kind == 3 && water-s.Lip < s.Flow:
		return water - s.Lip, "a dip, by its Lip"
	case s.Kind == 3:
		return s.Flow, "a dip, by Flow"
	}
	share := (s.Flow*water - s.Flow*water%(s.Room+1)) / (s.Room + 1)
	switch {
	case water <= share && water <= s.Flow:
		return water, "full, by the water"
	case s.Flow <= share:
		return s.Flow, "full, by Flow"
	}
	return share, "full, by its share"
}

// plainSewer goes up from a sewer to all that comes to it.
func plainSewer(list []impl.Sewer, storm []int64, place int) (on int64, left int64, why string) {
	water := list[place].Store + storm[place]
	for i := range list {
		if list[i].Down == int64(place) {
			more, _, _ := plainSewer(list, storm, i)
			water += more
		}
	}
	on, why = plainOn(list[place], water)
	return on, water - on, why
}

func plainSewerStep(list []impl.Sewer, storm []int64) impl.SewerOut {
	out := impl.SewerOut{List: slices.Clone(list), Flows: numbers(0, len(list)), Spill: numbers(0, len(list))}
	for place, s := range list {
		on, left, _ := plainSewer(list, storm, place)
		out.Flows[place], out.List[place].Store = on, left
		if left > s.Room {
			out.List[place].Store, out.Spill[place] = s.Room, left-s.Room
		}
		if s.Down == -1 {
			out.End += on
		}
	}
	return out
}

// anySewers are of about one size, so that no kind goes on by one limit alone.
func anySewers(random *rand.Rand, most int) []impl.Sewer {
	list := make([]impl.Sewer, 1+random.Intn(most))
	great := []int64{3, 20, 1000, impl.MaxFlow}[random.Intn(4)]
	for i := range list {
		down := int64(i) + 1 + random.Int63n(int64(min(4, len(list)-i)))
		if down >= int64(len(list)) || random.Intn(8) == 0 {
			down = -1
		}
		room := anyNumber(random, great)
		list[i] = impl.Sewer{Kind: 1 + random.Int63n(3), Store: anyNumber(random, room), Room: room,
			Flow: anyNumber(random, great), Lip: anyNumber(random, great), Down: down}
	}
	return list
}

// anyStorm is of about the size of the sewers.
func anyStorm(random *rand.Rand, list []impl.Sewer) []int64 {
	storm, great := numbers(0, len(list)), int64(0)
	for _, s := range list {
		great = max(great, s.Room, s.Flow)
	}
	for i := range storm {
		storm[i] = anyNumber(random, great)
	}
	return storm
}

func TestSewerStepOfAny(t *testing.T) {
	random := rand.New(rand.NewSource(141))
	seen := map[string]int{}
	for range 4000 {
		list := anySewers(random, 12)
		storm := anyStorm(random, list)
		want := plainSewerStep(list, storm)
		sameSewerStep(t, "any", list, storm, want)
		if t.Failed() {
			t.Fatalf("of %+v, %v", list, storm)
		}
		for place := range list {
			_, _, why := plainSewer(list, storm, place)
			seen[why]++
			if want.Spill[place] > 0 {
				seen["spilt"]++
			}
		}
	}
	for _, why := range []string{"free, by the water", "free, by Flow", "full, by the water", "full, by Flow", "full, by its share",
		"a dip, below its Lip", "a dip, by its Lip", "a dip, by Flow", "spilt"} {
		if seen[why] < 300 {
			t.Errorf("%s: %d are too few to tell", why, seen[why])
		}
	}
}

func spoilSewers(out impl.SewerOut) {
	for i := range out.List {
		out.List[i] = impl.Sewer{Kind: -9, Store: -9, Down: -9}
	}
	for _, list := range [][]int64{out.Flows, out.Spill} {
		for i := range list {
			list[i] = -9
		}
	}
	_ = append(out.List, impl.Sewer{Kind: -9})
	_, _ = append(out.Flows, -9), append(out.Spill, -9)
}

// ownSewers asks that no list of an answer shows what is written to another one.
func ownSewers(t *testing.T, what string, call func() impl.SewerOut) {
	t.Helper()
	want, got := call(), call()
	spoilSewers(impl.SewerOut{List: got.List})
	sameSewers(t, what+", List spoilt", impl.SewerOut{Flows: got.Flows, Spill: got.Spill}, impl.SewerOut{Flows: want.Flows, Spill: want.Spill})
	got = call()
	spoilSewers(impl.SewerOut{Flows: got.Flows})
	sameSewers(t, what+", Flows spoilt", impl.SewerOut{List: got.List, Spill: got.Spill}, impl.SewerOut{List: want.List, Spill: want.Spill})
	got = call()
	spoilSewers(impl.SewerOut{Spill: got.Spill})
	sameSewers(t, what+", Spill spoilt", impl.SewerOut{List: got.List, Flows: got.Flows}, impl.SewerOut{List: want.List, Flows: want.Flows})
	spoilSewers(got)
	sameSewers(t, what+", once more", call(), want)
}

func TestSewerStepIsNew(t *testing.T) {
	for _, storm := range [][]int64{numbers(0, 6), {20, 6, 1, 7, 3, 4}} {
		list, given := drains(), roomyPlaces(storm)
		ownSewers(t, "SewerStep", func() impl.SewerOut { return impl.SewerStep(list, given) })
		if !slices.Equal(list, drains()) || !keptPlaces(given, storm) {
			t.Error("SewerStep: an answer shares memory with what was handed in")
		}
		out := impl.SewerStep(list, given)
		list[0].Store, given[1] = 5, 9
		sameSewers(t, "behind spoilt sewers and a spoilt storm", out, plainSewerStep(drains(), storm))
	}
}
