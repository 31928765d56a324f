package tests

import (
	"math"
	"math/rand"
	"slices"
	"testing"

	"loop.example/g00068/impl"
)

func storeFault(code int64) impl.StoreOut {
	return impl.StoreOut{Code: code}
}

func sameStore(a impl.Store, b impl.Store) bool {
	return a.Volume == b.Volume && slices.Equal(a.Curve, b.Curve) && slices.Equal(a.Rules, b.Rules)
}

// copied is a store that shares no memory with the one it is like.
func copied(s impl.Store) impl.Store {
	return altered(s, func(*impl.Store) {})
}

// sameDay also holds what was handed in against what it was.
func sameDay(t *testing.T, what string, s impl.Store, in int64, want int64, out impl.StoreOut) {
	t.Helper()
	before := copied(s)
	if got := impl.StoreStep(s, in, want); got != out {
		t.Errorf("StoreStep, %s, in %d, want %d: got %+v, want %+v", what, in, want, got, out)
	}
	if !sameStore(s, before) {
		t.Errorf("StoreStep, %s: the store was changed", what)
	}
}

func sameDays(t *testing.T, what string, s impl.Store, ins []int64, wants []int64, out impl.StoreOut) {
	t.Helper()
	before, insBefore, wantsBefore := copied(s), slices.Clone(ins), slices.Clone(wants)
	if got := impl.StoreRun(s, ins, wants); got != out {
		t.Errorf("StoreRun, %s: got %+v, want %+v", what, got, out)
	}
	if !sameStore(s, before) || !slices.Equal(ins, insBefore) || !slices.Equal(wants, wantsBefore) {
		t.Errorf("StoreRun, %s: what was handed in was changed", what)
	}
}

// pond is full at so much, and gives all that is wanted.
func pond(full int64, volume int64) impl.Store {
	return impl.Store{Curve: []impl.Mark{{}, {Level: 1, Volume: full}}, Rules: []impl.Rule{{From: 0, Give: 1000}}, Volume: volume}
}

func holding(volume int64) impl.Store {
	return altered(lake(), func(s *impl.Store) { s.Volume = volume })
}

// plainDay goes through the rules from the last one, word by word as chapter 5 has a step.
func plainDay(s impl.Store, in int64, want int64) impl.StoreOut {
	full, water := s.Curve[len(s.Curve)-1].Volume, s.Volume+in
	give := int64(-1)
	for i := len(s.Rules) - 1; i >= 0 && give < 0; i-- {
		if s.Rules[i].From*full <= 100*water {
			give = s.Rules[i].Give
		}
	}
	out := impl.StoreOut{Given: (want*give - want*give%1000) / 1000}
	if out.Given > water {
		out.Given = water
	}
	out.Short, out.Volume = want-out.Given, water-out.Given
	if out.Volume > full {
		out.Spill, out.Volume = out.Volume-full, full
	}
	return out
}

// plainDays goes by StoreStep alone, as chapter 5 says it of StoreRun.
func plainDays(s impl.Store, ins []int64, wants []int64) impl.StoreOut {
	sum, volumes := impl.StoreOut{Volume: s.Volume}, []int64{}
	for i := range ins {
		s.Volume = sum.Volume
		step := impl.StoreStep(s, ins[i], wants[i])
		if step.Code != impl.OK {
			return storeFault(step.Code)
		}
		sum.Volume = step.Volume
		sum.Given += step.Given
		sum.Spill += step.Spill
		sum.Short += step.Short
		volumes = append(volumes, step.Volume)
	}
	if len(volumes) == 0 {
		volumes = []int64{s.Volume}
	}
	sum.Worst = slices.Min(volumes)
	return sum
}

func anyRules(random *rand.Rand) []impl.Rule {
	rules := []impl.Rule{{Give: anyNumber(random, 1000)}}
	for from := 1 + random.Int63n(30); from <= 100 && len(rules) < impl.MaxRules; from += 1 + random.Int63n(30) {
		rules = append(rules, impl.Rule{From: from, Give: anyNumber(random, 1000)})
	}
	return rules
}

func anyStore(random *rand.Rand) impl.Store {
	curve := anyCurve(random)
	return impl.Store{Curve: curve, Rules: anyRules(random), Volume: anyNumber(random, curve[len(curve)-1].Volume)}
}

// anyDayFlow is often as great as the store, so that it runs full and dry.
func anyDayFlow(random *rand.Rand, s impl.Store) int64 {
	return anyNumber(random, min(impl.MaxFlow, s.Curve[len(s.Curve)-1].Volume*3/2))
}

func TestStoreStepByHand(t *testing.T) {
	for _, c := range []struct {
		what             string
		volume, in, want int64
		out              impl.StoreOut
	}{
		{"nothing", 0, 0, 0, impl.StoreOut{}},
		{"nothing wanted", 500, 0, 0, impl.StoreOut{Volume: 500}},
		{"empty, something wanted", 0, 0, 9, impl.StoreOut{Short: 9}},
		{"the first rule", 199, 0, 100, impl.StoreOut{Volume: 174, Given: 25, Short: 75}},
		{"just at the second rule", 200, 0, 100, impl.StoreOut{Volume: 150, Given: 50, Short: 50}},
		{"at the second rule by what comes in", 100, 100, 100, impl.StoreOut{Volume: 150, Given: 50, Short: 50}},
		{"just below the third rule", 599, 0, 100, impl.StoreOut{Volume: 549, Given: 50, Short: 50}},
		{"just at the third rule", 600, 0, 100, impl.StoreOut{Volume: 500, Given: 100}},
		{"what is given is rounded down", 199, 0, 7, impl.StoreOut{Volume: 198, Given: 1, Short: 6}},
		{"a part of one", 199, 0, 3, impl.StoreOut{Volume: 199, Given: 0, Short: 3}},
		{"no more than the water", 10, 5, 100, impl.StoreOut{Volume: 0, Given: 15, Short: 85}},
		{"just the water", 10, 15, 100, impl.StoreOut{Volume: 0, Given: 25, Short: 75}},
		{"one less than the water", 10, 16, 100, impl.StoreOut{Volume: 1, Given: 25, Short: 75}},
		{"to the brim", 1000, 50, 50, impl.StoreOut{Volume: 1000, Given: 50}},
		{"given ahead of spilt", 1000, 51, 50, impl.StoreOut{Volume: 1000, Given: 50, Spill: 1}},
		{"all in above full", 1000, 70, 0, impl.StoreOut{Volume: 1000, Spill: 70}},
		{"more wanted than the store holds when full", 1000, 500, 1400, impl.StoreOut{Volume: 100, Given: 1400}},
		{"a rule by water above full", 900, 900, 300, impl.StoreOut{Volume: 1000, Given: 300, Spill: 500}},
		{"all flows at their most", 1000, impl.MaxFlow, impl.MaxFlow, impl.StoreOut{Volume: 1000, Given: impl.MaxFlow}},
	} {
		sameDay(t, c.what, holding(c.volume), c.in, c.want, c.out)
	}
}

func TestStoreStepRules(t *testing.T) {
	s := pond(250, 0)
	s.Rules = []impl.Rule{{From: 0, Give: 0}, {From: 1, Give: 500}, {From: 99, Give: 900}, {From: 100, Give: 1000}}
	for _, c := range [][2]int64{{0, 0}, {2, 0}, {3, 3}, {4, 4}, {100, 50}, {247, 50}, {248, 90}, {249, 90}, {250, 100}} {
		s.Volume = c[0]
		sameDay(t, "rules of a small store", s, 0, 100, impl.StoreOut{Volume: c[0] - c[1], Given: c[1], Short: 100 - c[1]})
	}
	great := pond(impl.MaxWater, impl.MaxWater-1)
	great.Rules = append(great.Rules, impl.Rule{From: 100, Give: 1})
	sameDay(t, "one below full", great, 0, impl.MaxFlow, impl.StoreOut{Volume: impl.MaxWater - 1 - impl.MaxFlow, Given: impl.MaxFlow})
	sameDay(t, "just full", great, 1, impl.MaxFlow, impl.StoreOut{Volume: impl.MaxWater - 1000, Given: 1000, Short: impl.MaxFlow - 1000})
	bed := impl.Store{Curve: []impl.Mark{{Level: 3, Volume: 50}, {Level: 4, Volume: 60}}, Rules: great.Rules, Volume: 20}
	sameDay(t, "below the first mark", bed, 0, 30, impl.StoreOut{Given: 20, Short: 10})
	sameDay(t, "full by the last mark", bed, 45, 0, impl.StoreOut{Volume: 60, Spill: 5})
	bed.Rules = ladder(impl.MaxRules)
	bed.Volume = 60
	sameDay(t, "the last of MaxRules", bed, 0, 1000, impl.StoreOut{Volume: 41, Given: 19, Short: 981})
}

func TestStoreStepOfAnyStore(t *testing.T) {
	random := rand.New(rand.NewSource(42))
	spilt, dry := 0, 0
	for range 5000 {
		s := anyStore(random)
		in, want := anyDayFlow(random, s), anyDayFlow(random, s)
		out := plainDay(s, in, want)
		sameDay(t, "any store", s, in, want, out)
		if out.Spill > 0 {
			spilt++
		}
		if out.Volume == 0 && out.Given > 0 {
			dry++
		}
	}
	if spilt < 200 || dry < 200 {
		t.Errorf("%d spill, %d run dry: too few to tell", spilt, dry)
	}
}

func TestStoreStepForm(t *testing.T) {
	for what, s := range wrongStores() {
		sameDay(t, what, s, 0, 0, storeFault(impl.ErrForm))
		sameDay(t, what, s, 5, 5, storeFault(impl.ErrForm))
		sameDay(t, what+", and flows", s, -1, impl.MaxFlow+1, storeFault(impl.ErrForm))
	}
	for _, n := range []int64{-1, impl.MaxFlow + 1, impl.MaxWater, math.MinInt64, math.MaxInt64} {
		sameDay(t, "what comes in", lake(), n, 0, storeFault(impl.ErrForm))
		sameDay(t, "what is wanted", lake(), 0, n, storeFault(impl.ErrForm))
		sameDay(t, "both flows", lake(), n, n, storeFault(impl.ErrForm))
	}
	sameDay(t, "a flow at its most", pond(impl.MaxWater, impl.MaxWater), impl.MaxFlow, 0, impl.StoreOut{Volume: impl.MaxWater, Spill: impl.MaxFlow})
}

func TestStoreRunByHand(t *testing.T) {
	sameDays(t, "one step", holding(199), []int64{0}, []int64{100}, impl.StoreOut{Volume: 174, Given: 25, Short: 75, Worst: 174})
	sameDays(t, "two steps", holding(199), []int64{0, 900}, []int64{100, 10}, impl.StoreOut{Volume: 1000, Given: 35, Spill: 64, Short: 75, Worst: 174})
	sameDays(t, "the worst in the middle", pond(100, 50), []int64{0, 0, 100, 0}, []int64{20, 25, 0, 60},
		impl.StoreOut{Volume: 40, Given: 105, Spill: 5, Worst: 5})
	sameDays(t, "the worst at the end", pond(100, 50), []int64{0, 0}, []int64{20, 40}, impl.StoreOut{Given: 50, Short: 10})
	sameDays(t, "the Volume ahead of the steps is not behind any", pond(100, 5), []int64{20, 30}, []int64{0, 0}, impl.StoreOut{Volume: 55, Worst: 25})
	sameDays(t, "nor is nought", pond(100, 0), []int64{20}, []int64{0}, impl.StoreOut{Volume: 20, Worst: 20})
	sameDays(t, "the worst is full", pond(100, 0), []int64{200, 1}, []int64{0, 1}, impl.StoreOut{Volume: 100, Given: 1, Spill: 100, Worst: 100})
}

func TestStoreRunOfNoSteps(t *testing.T) {
	for _, volume := range []int64{0, 1, 999, 1000} {
		want := impl.StoreOut{Volume: volume, Worst: volume}
		sameDays(t, "no steps", holding(volume), nil, nil, want)
		sameDays(t, "empty lists", holding(volume), []int64{}, []int64{}, want)
		sameDays(t, "none and an empty list", holding(volume), nil, []int64{}, want)
	}
	for what, s := range wrongStores() {
		sameDays(t, "no steps, "+what, s, nil, nil, storeFault(impl.ErrForm))
	}
}

func TestStoreRunIsStepByStep(t *testing.T) {
	random := rand.New(rand.NewSource(43))
	for range 1500 {
		s := anyStore(random)
		ins, wants := make([]int64, random.Intn(30)), []int64{}
		for i := range ins {
			ins[i] = anyDayFlow(random, s)
			wants = append(wants, anyDayFlow(random, s))
		}
		sameDays(t, "any store", s, ins, wants, plainDays(s, ins, wants))
	}
}

func TestStoreRunForm(t *testing.T) {
	for what, s := range wrongStores() {
		sameDays(t, what, s, []int64{1}, []int64{1}, storeFault(impl.ErrForm))
		sameDays(t, what+", and lists of two lengths", s, []int64{1}, nil, storeFault(impl.ErrForm))
	}
	for _, c := range [][2]int{{0, 1}, {1, 0}, {1, 2}, {2, 1}, {impl.MaxList, 0}, {0, impl.MaxList}, {impl.MaxList, impl.MaxList - 1}} {
		sameDays(t, "lists of two lengths", lake(), make([]int64, c[0]), make([]int64, c[1]), storeFault(impl.ErrForm))
	}
	for place := range 3 {
		for _, n := range []int64{-1, impl.MaxFlow + 1, math.MinInt64, math.MaxInt64} {
			good, bad := []int64{1, 2, 3}, []int64{1, 2, 3}
			bad[place] = n
			sameDays(t, "a wrong in", lake(), bad, good, storeFault(impl.ErrForm))
			sameDays(t, "a wrong want", lake(), good, bad, storeFault(impl.ErrForm))
			sameDays(t, "a wrong in and a wrong want", lake(), bad, bad, storeFault(impl.ErrForm))
		}
	}
}

func TestStoreRunSize(t *testing.T) {
	most, more := slices.Repeat([]int64{impl.MaxFlow}, impl.MaxList), slices.Repeat([]int64{impl.MaxFlow}, impl.MaxList+1)
	sum := int64(impl.MaxList * impl.MaxFlow)
	sameDays(t, "MaxList steps", pond(9, 3), most, make([]int64, impl.MaxList), impl.StoreOut{Volume: 9, Spill: sum - 6, Worst: 9})
	sameDays(t, "MaxList steps, nothing comes", pond(9, 3), make([]int64, impl.MaxList), most, impl.StoreOut{Given: 3, Short: sum - 3})
	sameDays(t, "MaxList steps, as much as comes", pond(9, 3), most, most, impl.StoreOut{Volume: 3, Given: sum, Worst: 3})
	sameDays(t, "one step more", pond(9, 3), more, more, storeFault(impl.ErrSize))
	sameDays(t, "ins alone", pond(9, 3), more, most, storeFault(impl.ErrSize))
	sameDays(t, "wants alone", pond(9, 3), most, more, storeFault(impl.ErrSize))
	sameDays(t, "ins alone, no wants", pond(9, 3), more, nil, storeFault(impl.ErrSize))
	sameDays(t, "wants alone, no ins", pond(9, 3), nil, more, storeFault(impl.ErrSize))
	wrong := slices.Repeat([]int64{-1}, impl.MaxList+1)
	sameDays(t, "wrong flows", pond(9, 3), wrong, wrong, storeFault(impl.ErrSize))
	sameDays(t, "no store", impl.Store{}, more, more, storeFault(impl.ErrSize))
	sameDays(t, "no store, ins alone", impl.Store{}, more, nil, storeFault(impl.ErrSize))
	for what, s := range wrongStores() {
		sameDays(t, "too many steps, "+what, s, more, more, storeFault(impl.ErrSize))
	}
}
