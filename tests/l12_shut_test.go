package tests

import (
	"math/rand"
	"slices"
	"testing"

	"loop.example/g00068/impl"
)

func shutFault(code int64) impl.ShutOut {
	return impl.ShutOut{Code: code}
}

func shutBy(homes int64, rows ...int64) impl.ShutOut {
	return impl.ShutOut{Rows: rows, Homes: homes}
}

func sameShut(t *testing.T, what string, p impl.Plan, place int64, want impl.ShutOut) {
	t.Helper()
	watched(t, "LeastShut, "+what, p, func(p impl.Plan) {
		got := impl.LeastShut(p, place)
		if !slices.Equal(got.Rows, want.Rows) || got.Homes != want.Homes || got.Code != want.Code {
			t.Errorf("LeastShut of place %d, %s: got %+v, want %+v", place, what, got, want)
		}
	})
}

func TestLeastShutByHand(t *testing.T) {
	p := quarter()
	sameShut(t, "a Source", p, 0, shutFault(impl.ErrNone))
	sameShut(t, "in a ring", p, 1, shutBy(70, 0, 1))
	sameShut(t, "in a ring, with all that hangs from it", p, 2, shutBy(200, 1, 2))
	sameShut(t, "behind a Row without a valve", p, 3, shutBy(200, 1, 2))
	sameShut(t, "behind two Rows", p, 4, shutBy(150, 4, 5))
	sameShut(t, "behind a valve that is stuck", p, 5, shutBy(150, 4, 5))
	sameShut(t, "dry anyway", p, 6, shutBy(60))
	both := changedPlan(p, func(p *impl.Plan) { p.Sources = []int64{0, 5} })
	sameShut(t, "between two Sources", both, 3, shutBy(110, 1, 2, 4, 5))
	sameShut(t, "by a stuck valve at a Source", both, 4, shutFault(impl.ErrNone))
	sameShut(t, "away from the other Source", both, 1, shutBy(70, 0, 1))
	sameShut(t, "the other Source", both, 5, shutFault(impl.ErrNone))
	none := changedPlan(p, func(p *impl.Plan) { p.Sources = nil })
	sameShut(t, "without Sources", none, 0, shutBy(211))
	sameShut(t, "without Sources, the last place", none, 6, shutBy(211))
	sameShut(t, "a stuck valve at the Source", changedPlan(p, func(p *impl.Plan) { p.Rows[0].Valve = impl.ValveStuck }), 1, shutFault(impl.ErrNone))
	sameShut(t, "a ring that can be opened at one side only", changedPlan(p, func(p *impl.Plan) { p.Rows[1].Valve = impl.ValveNone }), 1,
		shutBy(210, 0, 2))
	sameShut(t, "one place", impl.Plan{Homes: []int64{9}}, 0, shutBy(9))
	sameShut(t, "one Source", impl.Plan{Homes: []int64{9}, Sources: []int64{0}}, 0, shutFault(impl.ErrNone))
}

func TestLeastShutOfStreets(t *testing.T) {
	p := street(5)
	for place := int64(1); place < 5; place++ {
		sameShut(t, "a street", p, place, shutBy(5-place, place-1))
	}
	half := changedPlan(p, func(p *impl.Plan) { p.Rows[2].Valve = impl.ValveStuck })
	sameShut(t, "a street with a stuck valve, ahead of it", half, 2, shutBy(3, 1))
	sameShut(t, "a street with a stuck valve, behind it", half, 3, shutBy(3, 1))
	sameShut(t, "a street with a stuck valve, its end", half, 4, shutBy(1, 3))
	fed := changedPlan(p, func(p *impl.Plan) { p.Sources = []int64{0, 4} })
	sameShut(t, "a street fed from both ends", fed, 2, shutBy(1, 1, 2))
	sameShut(t, "a street fed from both ends, at its Source", fed, 1, shutBy(1, 0, 1))
	// Two Rows would leave one place dry, one Row leaves three.
	thin := impl.Plan{
		Rows:    []impl.Row{goodRow(2, 3), goodRow(3, 2), goodRow(1, 2), goodRow(2, 1), goodRow(0, 1)},
		Sources: []int64{0},
		Homes:   []int64{1, 10, 100, 1000},
	}
	sameShut(t, "fewer Rows ahead of fewer places", thin, 3, shutBy(1110, 4))
	sameShut(t, "as many Rows, and fewer places", changedPlan(thin, func(p *impl.Plan) { p.Rows = append(p.Rows, goodRow(1, 0)) }), 3, shutBy(1000, 0, 1))
}

// bridge has a short way to its last place, over a Row of each of two longer ones: who keeps to the
// short one finds no second one beside it.
func bridge() impl.Plan {
	return impl.Plan{
		Rows: []impl.Row{
			goodRow(0, 1), goodRow(1, 2), goodRow(2, 7), // the short way
			goodRow(0, 3), goodRow(3, 4), goodRow(4, 2),
			goodRow(1, 5), goodRow(5, 6), goodRow(6, 7),
		},
		Sources: []int64{0},
		Homes:   []int64{1, 2, 4, 8, 16, 32, 64, 128},
	}
}

func TestLeastShutOfWaysThatCross(t *testing.T) {
	sameShut(t, "ways that cross", bridge(), 7, shutBy(128, 2, 8))
	wide := changedPlan(bridge(), func(p *impl.Plan) { p.Rows = append(p.Rows, goodRow(2, 7), goodRow(7, 6)) })
	sameShut(t, "ways that cross, and more at their end", wide, 7, shutBy(2+4+32+64+128, 0, 5))
	stuck := changedPlan(wide, func(p *impl.Plan) { p.Rows[0].Valve = impl.ValveStuck })
	sameShut(t, "ways that cross, one stuck", stuck, 7, shutBy(64+128, 2, 7, 9))
}

func TestLeastShutAtTheLimits(t *testing.T) {
	long := changedPlan(street(impl.MaxPlaces), func(p *impl.Plan) { p.Homes = numbers(impl.MaxFlow, impl.MaxPlaces) })
	sameShut(t, "the end of a long street", long, impl.MaxPlaces-1, shutBy(impl.MaxFlow, impl.MaxPlaces-2))
	sameShut(t, "the beginning of a long street", long, 1, shutBy((impl.MaxPlaces-1)*impl.MaxFlow, 0))
	sameShut(t, "a long street without its Source", changedPlan(long, func(p *impl.Plan) { p.Sources = nil }), 20, shutBy(impl.MaxPlaces*impl.MaxFlow))
	var all []int64
	for place := range int64(impl.MaxRows) {
		all = append(all, place)
	}
	sameShut(t, "MaxRows", crowd(impl.ValveGood), 1, shutBy(4, all...))
	sameShut(t, "MaxRows, stuck", crowd(impl.ValveStuck), 1, shutFault(impl.ErrNone))
	sameShut(t, "MaxRows, one without a valve", changedPlan(crowd(impl.ValveGood), func(p *impl.Plan) { p.Rows[57].Valve = impl.ValveNone }), 1,
		shutFault(impl.ErrNone))
	// Ninety-nine ways go through the one Row without a valve.
	neck := changedPlan(crowd(impl.ValveGood), func(p *impl.Plan) {
		p.Rows[99], p.Homes = row(1, 2, impl.ValveNone), []int64{3, 4, 5}
	})
	sameShut(t, "many ways through one Row", neck, 2, shutBy(9, all[:99]...))
}

func TestLeastShutOfWrong(t *testing.T) {
	for what, p := range wrongPlans() {
		for place := range int64(7) {
			sameShut(t, what, p, place, shutFault(impl.ErrForm))
		}
	}
	for what, place := range beside(0, 6) {
		sameShut(t, "a place "+what, quarter(), place, shutFault(impl.ErrForm))
		sameShut(t, "a place of a plan without Sources "+what, impl.Plan{Homes: numbers(1, 7)}, place, shutFault(impl.ErrForm))
	}
	sameShut(t, "a Source of a wrong plan", changedPlan(quarter(), func(p *impl.Plan) { p.Rows[6].Valve = 3 }), 0, shutFault(impl.ErrForm))
}

func TestLeastShutIsNew(t *testing.T) {
	p := quarter()
	first := impl.LeastShut(p, 3)
	for i := range first.Rows {
		first.Rows[i] = -9
	}
	sameShut(t, "behind a spoilt answer", p, 3, shutBy(200, 1, 2))
	second := impl.LeastShut(p, 3)
	p.Rows[1], p.Sources[0], p.Homes[3] = impl.Row{}, 5, 0
	samePlaces(t, "behind a spoilt plan", second.Rows, []int64{1, 2})
}

// plainLeast tries each set of good Rows, and tells how many are as good as the one it tells.
func plainLeast(p impl.Plan, place int64) (impl.ShutOut, int) {
	good, best, alike, fewest := goodPlaces(p), shutFault(impl.ErrNone), 0, 0
	for bits := range 1 << len(good) {
		var set []int64
		for i, n := range good {
			if bits>>i&1 == 1 {
				set = append(set, n)
			}
		}
		dry := plainDry(p, set)
		if !slices.Contains(dry, place) {
			continue
		}
		worse := len(set) > len(best.Rows) || len(set) == len(best.Rows) && len(dry) > fewest
		switch {
		case best.Code == impl.OK && worse:
		case best.Code == impl.OK && len(set) == len(best.Rows) && len(dry) == fewest:
			alike++
		default:
			best, alike, fewest = shutBy(0, set...), 1, len(dry)
			for _, n := range dry {
				best.Homes += p.Homes[n]
			}
		}
	}
	return best, alike
}

func TestLeastShutOfAny(t *testing.T) {
	random := rand.New(rand.NewSource(122))
	none, sizes := 0, map[int]int{}
	for range 4000 {
		places := 2 + random.Intn(6)
		p := anyPlan(random, places, random.Intn(13), 50+random.Intn(45))
		place := random.Int63n(int64(places))
		if slices.Contains(p.Sources, place) && random.Intn(4) > 0 {
			continue
		}
		want, alike := plainLeast(p, place)
		sameShut(t, "any", p, place, want)
		if t.Failed() {
			t.Fatalf("of %+v", p)
		}
		if want.Code != impl.OK {
			none++
			continue
		}
		if alike != 1 {
			t.Fatalf("%+v: %d sets are alike", p, alike)
		}
		sizes[len(want.Rows)]++
	}
	if none < 300 || sizes[0] < 200 || sizes[1] < 200 || sizes[2] < 100 || sizes[3] < 50 || sizes[4] < 10 {
		t.Errorf("%d without, %v Rows: too few to tell", none, sizes)
	}
}

// Which set is told hangs neither on the order of Rows nor on the way in which they are told.
func TestLeastShutInAnyOrder(t *testing.T) {
	random := rand.New(rand.NewSource(123))
	shut := 0
	for range 500 {
		p := anyPlan(random, 3+random.Intn(10), 5+random.Intn(25), 80)
		place := random.Int63n(int64(len(p.Homes)))
		out := impl.LeastShut(p, place)
		order := random.Perm(len(p.Rows))
		mixed := changedPlan(p, func(p *impl.Plan) {})
		want := impl.ShutOut{Homes: out.Homes, Code: out.Code}
		for to, from := range order {
			mixed.Rows[to] = p.Rows[from]
			if random.Intn(2) == 0 {
				mixed.Rows[to].From, mixed.Rows[to].To = p.Rows[from].To, p.Rows[from].From
			}
			if slices.Contains(out.Rows, int64(from)) {
				want.Rows = append(want.Rows, int64(to))
			}
		}
		sameShut(t, "in another order", mixed, place, want)
		if t.Failed() {
			t.Fatalf("of %+v and %+v", p, mixed)
		}
		shut += len(want.Rows)
	}
	if shut < 300 {
		t.Errorf("%d Rows shut: too few to tell", shut)
	}
}
