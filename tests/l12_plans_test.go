package tests

import (
	"math"
	"math/rand"
	"slices"
	"testing"

	"loop.example/g00068/impl"
)

func row(from int64, to int64, valve int64) impl.Row {
	return impl.Row{From: from, To: to, Valve: valve}
}

func goodRow(from int64, to int64) impl.Row {
	return row(from, to, impl.ValveGood)
}

// changedPlan is a copy of a plan but for what is changed of it.
func changedPlan(p impl.Plan, change func(p *impl.Plan)) impl.Plan {
	p = impl.Plan{Rows: slices.Clone(p.Rows), Sources: slices.Clone(p.Sources), Homes: slices.Clone(p.Homes)}
	change(&p)
	return p
}

// quarter has a ring of places 0, 1 and 2, from which 3, 4 and 5 hang in a chain with two Rows in
// the midst of it; nothing leads to 6.
func quarter() impl.Plan {
	return impl.Plan{
		Rows: []impl.Row{
			goodRow(0, 1), goodRow(1, 2), goodRow(2, 0), row(2, 3, impl.ValveNone),
			goodRow(3, 4), goodRow(4, 3), row(5, 4, impl.ValveStuck),
		},
		Sources: []int64{0},
		Homes:   []int64{1, 10, 20, 30, 40, 50, 60},
	}
}

// street is a chain of so many places, a home at each, with good valves, and its Source ahead.
func street(places int) impl.Plan {
	p := impl.Plan{Sources: []int64{0}, Homes: numbers(1, places)}
	for i := range places - 1 {
		p.Rows = append(p.Rows, goodRow(int64(i), int64(i+1)))
	}
	return p
}

// crowd has as many Rows as may be between two places.
func crowd(valve int64) impl.Plan {
	return impl.Plan{Rows: slices.Repeat([]impl.Row{row(0, 1, valve)}, impl.MaxRows), Sources: []int64{0}, Homes: []int64{3, 4}}
}

// roomyPlaces has room behind its end, with marks in it, so that what is put there is seen.
func roomyPlaces(list []int64) []int64 {
	if list == nil {
		return nil
	}
	return slices.Concat(list, []int64{-7, -7})[:len(list)]
}

func keptPlaces(list []int64, before []int64) bool {
	return list == nil || slices.Equal(list[:len(list)+2], slices.Concat(before, []int64{-7, -7}))
}

// watched calls with a plan of its own, and tells if it was changed.
func watched(t *testing.T, what string, p impl.Plan, call func(p impl.Plan)) {
	t.Helper()
	given := impl.Plan{Rows: slices.Clone(p.Rows), Sources: roomyPlaces(p.Sources), Homes: roomyPlaces(p.Homes)}
	call(given)
	if !slices.Equal(given.Rows, p.Rows) || !keptPlaces(given.Sources, p.Sources) || !keptPlaces(given.Homes, p.Homes) {
		t.Errorf("%s: the plan was changed", what)
	}
}

// wrongPlans are right but for what their names say.
func wrongPlans() map[string]impl.Plan {
	wrong := map[string]impl.Plan{"none": {}}
	add := func(what string, change func(p *impl.Plan)) {
		wrong[what] = changedPlan(quarter(), change)
	}
	for what, place := range beside(0, 6) {
		add("From is "+what, func(p *impl.Plan) { p.Rows[6].From = place })
		add("To is "+what, func(p *impl.Plan) { p.Rows[0].To = place })
		add("both ends are "+what, func(p *impl.Plan) { p.Rows[3].From, p.Rows[3].To = place, place })
		add("a Source alone is "+what, func(p *impl.Plan) { p.Sources = []int64{place} })
		add("the last Source is "+what, func(p *impl.Plan) { p.Sources = []int64{0, place} })
		add("the first Source is "+what, func(p *impl.Plan) { p.Sources = []int64{place, 6} })
	}
	for what, valve := range beside(impl.ValveNone, impl.ValveStuck) {
		add("the first Valve is "+what, func(p *impl.Plan) { p.Rows[0].Valve = valve })
		add("the last Valve is "+what, func(p *impl.Plan) { p.Rows[6].Valve = valve })
	}
	for what, homes := range beside(0, impl.MaxFlow) {
		add("the first Homes are "+what, func(p *impl.Plan) { p.Homes[0] = homes })
		add("the last Homes are "+what, func(p *impl.Plan) { p.Homes[6] = homes })
	}
	add("a Row to its own place", func(p *impl.Plan) { p.Rows[4].To = p.Rows[4].From })
	add("the last Row to its own place", func(p *impl.Plan) { p.Rows[6] = goodRow(0, 0) })
	add("a place too few", func(p *impl.Plan) { p.Homes = p.Homes[:5] })
	add("no places", func(p *impl.Plan) { p.Homes = nil })
	add("no places, and nothing else", func(p *impl.Plan) { *p = impl.Plan{Rows: p.Rows[:0], Sources: p.Sources[:0], Homes: p.Homes[:0]} })
	add("one place above MaxPlaces", func(p *impl.Plan) { p.Homes = numbers(1, impl.MaxPlaces+1) })
	add("very many places", func(p *impl.Plan) { p.Homes = numbers(1, impl.MaxList+1) })
	add("one Row above MaxRows", func(p *impl.Plan) { p.Rows = slices.Repeat([]impl.Row{goodRow(0, 1)}, impl.MaxRows+1) })
	add("very many Rows", func(p *impl.Plan) { p.Rows = slices.Repeat([]impl.Row{goodRow(0, 1)}, impl.MaxList+1) })
	add("Sources falling", func(p *impl.Plan) { p.Sources = []int64{0, 2, 1} })
	add("a Source twice", func(p *impl.Plan) { p.Sources = []int64{0, 1, 1} })
	add("the first Source twice", func(p *impl.Plan) { p.Sources = []int64{0, 0} })
	add("a Source again", func(p *impl.Plan) { p.Sources = []int64{0, 1, 0} })
	add("more Sources than places", func(p *impl.Plan) { p.Sources = []int64{0, 1, 2, 3, 4, 5, 6, 7} })
	return wrong
}

// rightPlans are at the limits, or of little.
func rightPlans() map[string]impl.Plan {
	right := map[string]impl.Plan{
		"a quarter":      quarter(),
		"one place":      {Homes: []int64{0}},
		"one Source":     {Homes: []int64{9}, Sources: []int64{0}},
		"empty lists":    {Rows: []impl.Row{}, Sources: []int64{}, Homes: []int64{0}},
		"MaxPlaces":      street(impl.MaxPlaces),
		"MaxRows":        crowd(impl.ValveGood),
		"MaxRows, stuck": crowd(impl.ValveStuck),
	}
	add := func(what string, change func(p *impl.Plan)) {
		right[what] = changedPlan(quarter(), change)
	}
	add("no Rows", func(p *impl.Plan) { p.Rows = nil })
	add("no Sources", func(p *impl.Plan) { p.Sources = nil })
	add("all Sources", func(p *impl.Plan) { p.Sources = []int64{0, 1, 2, 3, 4, 5, 6} })
	add("the last place a Source", func(p *impl.Plan) { p.Sources = []int64{6} })
	add("Homes at their limits", func(p *impl.Plan) { p.Homes[0], p.Homes[6] = impl.MaxFlow, 0 })
	add("Rows to the last place", func(p *impl.Plan) { p.Rows[0], p.Rows[6] = goodRow(6, 0), goodRow(0, 6) })
	add("a place more", func(p *impl.Plan) { p.Homes = append(p.Homes, 0) })
	return right
}

func samePlanRight(t *testing.T, what string, p impl.Plan, want bool) {
	t.Helper()
	watched(t, "PlanRight, "+what, p, func(p impl.Plan) {
		if got := impl.PlanRight(p); got != want {
			t.Errorf("PlanRight, %s: got %v, want %v", what, got, want)
		}
	})
}

func TestPlanRight(t *testing.T) {
	for what, p := range rightPlans() {
		samePlanRight(t, what, p, true)
	}
	for what, p := range wrongPlans() {
		samePlanRight(t, what, p, false)
	}
}

// sameDry asks for the dry places, their homes, and of each place whether it is shut off.
func sameDry(t *testing.T, what string, p impl.Plan, shut []int64, want []int64) {
	t.Helper()
	homes := int64(0)
	for _, place := range want {
		homes += p.Homes[place]
	}
	given := roomyPlaces(shut)
	watched(t, what, p, func(p impl.Plan) {
		samePlaces(t, "DryPlaces, "+what, impl.DryPlaces(p, given), want)
		if got := impl.DryHomes(p, given); got != homes {
			t.Errorf("DryHomes, %s: got %d, want %d", what, got, homes)
		}
		for place := int64(-1); place <= int64(len(p.Homes)); place++ {
			if got := impl.ShutRight(p, place, given); got != slices.Contains(want, place) {
				t.Errorf("ShutRight of place %d, %s: got %v", place, what, got)
			}
		}
	})
	if !keptPlaces(given, shut) {
		t.Errorf("%s: what is shut was changed", what)
	}
}

func TestDryByHand(t *testing.T) {
	p := quarter()
	sameDry(t, "nothing shut", p, nil, []int64{6})
	sameDry(t, "nothing shut, an empty list", p, []int64{}, []int64{6})
	sameDry(t, "one side of the ring", p, []int64{0}, []int64{6})
	sameDry(t, "about 1", p, []int64{0, 1}, []int64{1, 6})
	sameDry(t, "about 2", p, []int64{1, 2}, []int64{2, 3, 4, 5, 6})
	sameDry(t, "both out of the Source", p, []int64{0, 2}, []int64{1, 2, 3, 4, 5, 6})
	sameDry(t, "one of two Rows", p, []int64{5}, []int64{6})
	sameDry(t, "both of two Rows", p, []int64{4, 5}, []int64{4, 5, 6})
	sameDry(t, "all of the ring", p, []int64{0, 1, 2}, []int64{1, 2, 3, 4, 5, 6})
	sameDry(t, "all that can be", p, []int64{0, 1, 2, 4, 5}, []int64{1, 2, 3, 4, 5, 6})
	behind := changedPlan(p, func(p *impl.Plan) { p.Sources = []int64{5} })
	sameDry(t, "from the other end", behind, nil, []int64{6})
	sameDry(t, "from the other end, the chain", behind, []int64{4, 5}, []int64{0, 1, 2, 3, 6})
	sameDry(t, "from the other end, about 0", behind, []int64{0, 2}, []int64{0, 6})
	both := changedPlan(p, func(p *impl.Plan) { p.Sources = []int64{0, 5} })
	sameDry(t, "from both ends, the chain", both, []int64{4, 5}, []int64{6})
	sameDry(t, "from both ends, all", both, []int64{0, 1, 2, 4, 5}, []int64{1, 2, 3, 6})
	sameDry(t, "without Sources", changedPlan(p, func(p *impl.Plan) { p.Sources = nil }), []int64{0}, []int64{0, 1, 2, 3, 4, 5, 6})
	sameDry(t, "all Sources", changedPlan(p, func(p *impl.Plan) { p.Sources = []int64{0, 1, 2, 3, 4, 5, 6} }), []int64{0, 1, 2, 4, 5}, nil)
	sameDry(t, "without Rows", changedPlan(p, func(p *impl.Plan) { p.Rows = nil }), nil, []int64{1, 2, 3, 4, 5, 6})
	sameDry(t, "one place", impl.Plan{Homes: []int64{9}}, nil, []int64{0})
	sameDry(t, "one Source", impl.Plan{Homes: []int64{9}, Sources: []int64{0}}, nil, nil)
}

func TestDryAtTheLimits(t *testing.T) {
	long := changedPlan(street(impl.MaxPlaces), func(p *impl.Plan) { p.Homes = numbers(impl.MaxFlow, impl.MaxPlaces) })
	var all []int64
	for place := range int64(impl.MaxPlaces) {
		all = append(all, place)
	}
	sameDry(t, "a long street", long, nil, nil)
	sameDry(t, "a long street, its last Row", long, []int64{38}, []int64{39})
	sameDry(t, "a long street, its first Row", long, []int64{0}, all[1:])
	sameDry(t, "a long street, two Rows", long, []int64{7, 30}, all[8:])
	sameDry(t, "a long street, without its Source", changedPlan(long, func(p *impl.Plan) { p.Sources = nil }), nil, all)
	shut := make([]int64, impl.MaxRows)
	for i := range shut {
		shut[i] = int64(i)
	}
	sameDry(t, "MaxRows shut", crowd(impl.ValveGood), shut, []int64{1})
	sameDry(t, "all but the first", crowd(impl.ValveGood), shut[1:], nil)
	sameDry(t, "all but the last", crowd(impl.ValveGood), shut[:99], nil)
}

// wrongSets are of the quarter, and dry something, if they are taken for right.
func wrongSets() map[string][]int64 {
	many := make([]int64, impl.MaxList+1)
	for i := range many {
		many[i] = int64(i)
	}
	return map[string][]int64{
		"below":                        {-1, 0, 1, 2},
		"below, alone":                 {-1},
		"beyond":                       {0, 1, 2, 7},
		"beyond, alone":                {7},
		"the least":                    {math.MinInt64, 0, 2},
		"the most":                     {0, 2, math.MaxInt64},
		"falling":                      {2, 0},
		"falling at its end":           {0, 2, 1},
		"the first twice":              {0, 0, 2},
		"the last twice":               {0, 2, 2},
		"a Row without a valve":        {0, 2, 3},
		"one without a valve alone":    {3},
		"a Row whose valve is stuck":   {0, 2, 6},
		"one whose valve is stuck":     {6},
		"MaxList and one, not right":   many,
		"MaxList and one, all noughts": numbers(0, impl.MaxList+1),
	}
}

func notDry(t *testing.T, what string, p impl.Plan, shut []int64) {
	t.Helper()
	given := roomyPlaces(shut)
	watched(t, what, p, func(p impl.Plan) {
		samePlaces(t, "DryPlaces, "+what, impl.DryPlaces(p, given), nil)
		if got := impl.DryHomes(p, given); got != 0 {
			t.Errorf("DryHomes, %s: got %d, want 0", what, got)
		}
		for place := int64(-1); place <= 7; place++ {
			if impl.ShutRight(p, place, given) {
				t.Errorf("ShutRight of place %d, %s: got true", place, what)
			}
		}
	})
	if !keptPlaces(given, shut) {
		t.Errorf("%s: what is shut was changed", what)
	}
}

func TestDryOfWrong(t *testing.T) {
	for what, shut := range wrongSets() {
		notDry(t, "a set "+what, quarter(), shut)
	}
	notDry(t, "a set of a plan without Rows", impl.Plan{Homes: numbers(1, 7)}, []int64{0})
	for what, p := range wrongPlans() {
		notDry(t, "a plan, "+what, p, nil)
		notDry(t, "a plan and two Rows, "+what, p, []int64{1, 2})
	}
}

func TestShutRightOfNoPlace(t *testing.T) {
	dry := impl.Plan{Homes: numbers(1, 7)}
	for what, place := range beside(0, 6) {
		if impl.ShutRight(dry, place, nil) {
			t.Errorf("ShutRight of a place %s: got true", what)
		}
	}
	if !impl.ShutRight(dry, 0, nil) || !impl.ShutRight(dry, 6, nil) {
		t.Errorf("ShutRight of the first and the last place: got false")
	}
}

func TestDryPlacesAreNew(t *testing.T) {
	p, shut := quarter(), []int64{1, 2}
	first := impl.DryPlaces(p, shut)
	for i := range first {
		first[i] = -9
	}
	sameDry(t, "behind a spoilt answer", p, shut, []int64{2, 3, 4, 5, 6})
	alone := changedPlan(p, func(p *impl.Plan) { p.Sources = []int64{0, 1, 2, 3, 4} })
	dry := impl.DryPlaces(alone, []int64{0, 1, 2})
	alone.Sources[0], shut[0] = 9, 9
	samePlaces(t, "behind a spoilt plan", dry, []int64{6})
}

// anyPlan has few places, so that many Rows are between the same two and rings are many; how many
// of its valves are good is told in percent.
func anyPlan(random *rand.Rand, places int, rows int, good int) impl.Plan {
	var p impl.Plan
	for place := range places {
		p.Homes = append(p.Homes, anyNumber(random, impl.MaxFlow))
		if random.Intn(places) == 0 {
			p.Sources = append(p.Sources, int64(place))
		}
	}
	for range rows {
		from, valve := random.Intn(places), int64(impl.ValveGood)
		to := (from + 1 + random.Intn(places-1)) % places
		if random.Intn(100) >= good {
			valve = 2 * random.Int63n(2)
		}
		p.Rows = append(p.Rows, row(int64(from), int64(to), valve))
	}
	return p
}

func goodPlaces(p impl.Plan) []int64 {
	var good []int64
	for place, r := range p.Rows {
		if r.Valve == impl.ValveGood {
			good = append(good, int64(place))
		}
	}
	return good
}

func anySet(random *rand.Rand, of []int64) []int64 {
	var set []int64
	for _, n := range of {
		if random.Intn(2) == 0 {
			set = append(set, n)
		}
	}
	return set
}

// plainDry wets the ends of Rows that are not shut, until nothing is wetted any more.
func plainDry(p impl.Plan, shut []int64) []int64 {
	wet := map[int64]bool{}
	for _, source := range p.Sources {
		wet[source] = true
	}
	for more := true; more; {
		more = false
		for place, r := range p.Rows {
			if wet[r.From] != wet[r.To] && !slices.Contains(shut, int64(place)) {
				wet[r.From], wet[r.To], more = true, true, true
			}
		}
	}
	var dry []int64
	for place := range int64(len(p.Homes)) {
		if !wet[place] {
			dry = append(dry, place)
		}
	}
	return dry
}

func TestDryOfAny(t *testing.T) {
	random := rand.New(rand.NewSource(121))
	seen := map[int]int{}
	for i := range 3000 {
		p := anyPlan(random, 2+random.Intn(8), random.Intn(14), 70)
		if i%10 == 0 {
			p = anyPlan(random, impl.MaxPlaces, impl.MaxRows, 70)
		}
		shut := anySet(random, goodPlaces(p))
		want := plainDry(p, shut)
		sameDry(t, "any", p, shut, want)
		if t.Failed() {
			t.Fatalf("of %+v, %v shut", p, shut)
		}
		seen[len(want)]++
	}
	if seen[0] < 50 || seen[1] < 50 || seen[3] < 50 {
		t.Errorf("%v: too few to tell", seen)
	}
}
