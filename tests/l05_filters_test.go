package tests

import (
	"math"
	"math/rand"
	"slices"
	"testing"

	"loop.example/g00068/impl"
)

func filterFault(code int64) impl.FilterOut {
	return impl.FilterOut{Code: code}
}

func sameFiltered(t *testing.T, what string, got impl.FilterOut, want impl.FilterOut) {
	t.Helper()
	if got.F != want.F || !sameBatch(got.Clean, want.Clean) || !sameBatch(got.Waste, want.Waste) || got.Head != want.Head || got.Code != want.Code {
		t.Errorf("%s: got %+v, want %+v", what, got, want)
	}
}

// sameFilter also holds what was handed in against what it was.
func sameFilter(t *testing.T, what string, f impl.Filter, b impl.Batch, want impl.FilterOut) {
	t.Helper()
	before := copiedBatch(b)
	sameFiltered(t, "FilterStep, "+what, impl.FilterStep(f, b), want)
	if !sameBatch(b, before) {
		t.Errorf("FilterStep, %s: the batch was changed", what)
	}
}

func heldBy(f impl.Filter, held int64) impl.Filter {
	f.Held = held
	return f
}

func wrongFilters() map[string]impl.Filter {
	wrong := map[string]impl.Filter{}
	good := impl.Filter{Held: 1, Most: 10, Catch: 500, Wash: 4}
	for _, beyond := range []int64{-1, math.MinInt64, math.MaxInt64} {
		wrong["Held "+decimal(beyond)] = impl.Filter{Held: beyond, Most: good.Most, Catch: good.Catch, Wash: good.Wash}
		wrong["Most "+decimal(beyond)] = impl.Filter{Held: good.Held, Most: beyond, Catch: good.Catch, Wash: good.Wash}
		wrong["Catch "+decimal(beyond)] = impl.Filter{Held: good.Held, Most: good.Most, Catch: beyond, Wash: good.Wash}
		wrong["Wash "+decimal(beyond)] = impl.Filter{Held: good.Held, Most: good.Most, Catch: good.Catch, Wash: beyond}
	}
	wrong["Held one beyond"] = impl.Filter{Held: impl.MaxGrams + 1}
	wrong["Most one beyond"] = impl.Filter{Most: impl.MaxGrams + 1}
	wrong["Catch one beyond"] = impl.Filter{Catch: 1001}
	wrong["Wash one beyond"] = impl.Filter{Wash: impl.MaxFlow + 1}
	return wrong
}

// plainFilter asks for what is right, and goes word by word as chapter 6 has a step.
func plainFilter(f impl.Filter, b impl.Batch) impl.FilterOut {
	caught := share(b.Parts[0], f.Catch, 1000)
	held := f.Held + caught
	if held > impl.MaxGrams {
		return filterFault(impl.ErrOver)
	}
	waste, left := batch(0, make([]int64, len(b.Parts))...), held
	if held > f.Most && f.Wash <= b.Water {
		waste.Water, waste.Parts[0], left = f.Wash, held, 0
	}
	kept := batch(0, make([]int64, len(b.Parts))...)
	kept.Water, kept.Parts[0] = waste.Water, caught
	return impl.FilterOut{F: heldBy(f, left), Clean: less(b, kept), Waste: waste, Head: 10 + share(90, left, f.Most+1)}
}

// anyFilter is of the size of what comes through it, so that it is washed now and then.
func anyFilter(random *rand.Rand, grams int64) impl.Filter {
	return impl.Filter{Held: anyNumber(random, grams), Most: anyNumber(random, grams), Catch: anyNumber(random, 1000), Wash: anyNumber(random, min(grams, impl.MaxFlow))}
}

func TestFilterStepByHand(t *testing.T) {
	f := impl.Filter{Most: 10, Catch: 500, Wash: 4}
	still := func(water int64, held int64, head int64, parts ...int64) impl.FilterOut {
		return impl.FilterOut{F: heldBy(f, held), Clean: batch(water, parts...), Waste: batch(0, make([]int64, len(parts))...), Head: head}
	}
	sameFilter(t, "nothing to catch", f, batch(10, 0), still(10, 0, 10, 0))
	sameFilter(t, "what is caught is rounded down", f, batch(10, 3), still(10, 1, 18, 2))
	sameFilter(t, "less than one", f, batch(10, 1), still(10, 0, 10, 1))
	sameFilter(t, "just at Most", f, batch(10, 20), still(10, 10, 91, 10))
	sameFilter(t, "just above Most", f, batch(10, 22), impl.FilterOut{F: f, Clean: batch(6, 11), Waste: batch(4, 11), Head: 10})
	sameFilter(t, "far above Most", f, batch(10, 30), impl.FilterOut{F: f, Clean: batch(6, 15), Waste: batch(4, 15), Head: 10})
	sameFilter(t, "just the water for a wash", f, batch(4, 30), impl.FilterOut{F: f, Clean: batch(0, 15), Waste: batch(4, 15), Head: 10})
	sameFilter(t, "too little water for a wash", f, batch(3, 30), still(3, 15, 132, 15))
	sameFilter(t, "no water", f, batch(0, 30), still(0, 15, 132, 15))
	sameFilter(t, "the other parts go through", f, batch(10, 8, 9, 7), still(10, 4, 42, 4, 9, 7))
	sameFilter(t, "the other parts are not washed out", f, batch(10, 40, 9, 7), impl.FilterOut{F: f, Clean: batch(6, 20, 9, 7), Waste: batch(4, 20, 0, 0), Head: 10})
	sameFilter(t, "what it held is washed out too", heldBy(f, 8), batch(10, 6), impl.FilterOut{F: f, Clean: batch(6, 3), Waste: batch(4, 11), Head: 10})
	sameFilter(t, "what it held stays", heldBy(f, 8), batch(10, 4), still(10, 10, 91, 2))
	sameFilter(t, "above Most from the start", heldBy(f, 11), batch(10, 0), impl.FilterOut{F: f, Clean: batch(6, 0), Waste: batch(4, 11), Head: 10})
	sameFilter(t, "above Most for long", heldBy(f, 500), batch(1, 0), still(1, 500, 4100, 0))
}

func TestFilterStepAtItsLimits(t *testing.T) {
	free := impl.Filter{Catch: 1000}
	sameFilter(t, "a wash without water", free, batch(0, 5), impl.FilterOut{F: free, Clean: batch(0, 0), Waste: batch(0, 5), Head: 10})
	sameFilter(t, "nothing held at no Most", free, batch(0, 0), impl.FilterOut{F: free, Clean: batch(0, 0), Waste: batch(0, 0), Head: 10})
	loose := impl.Filter{Held: 5, Most: 5, Wash: impl.MaxFlow}
	sameFilter(t, "nothing is caught", loose, batch(9, impl.MaxGrams), impl.FilterOut{F: loose, Clean: batch(9, impl.MaxGrams), Waste: batch(0, 0), Head: 85})
	great := impl.Filter{Held: impl.MaxGrams, Most: impl.MaxGrams, Catch: 1000, Wash: impl.MaxFlow}
	sameFilter(t, "full, and nothing comes", great, batch(impl.MaxWater, 0), impl.FilterOut{F: great, Clean: batch(impl.MaxWater, 0), Waste: batch(0, 0), Head: 99})
	sameFilter(t, "full by what comes", heldBy(great, 0), batch(impl.MaxWater, impl.MaxGrams), impl.FilterOut{F: great, Clean: batch(impl.MaxWater, 0), Waste: batch(0, 0), Head: 99})
	stuck := impl.Filter{Held: impl.MaxGrams, Wash: 1}
	sameFilter(t, "the greatest head", stuck, batch(0, 7), impl.FilterOut{F: stuck, Clean: batch(0, 7), Waste: batch(0, 0), Head: 10 + 90*impl.MaxGrams})
	washed := impl.Filter{Held: impl.MaxGrams, Most: impl.MaxGrams - 1, Catch: 1000, Wash: impl.MaxFlow}
	sameFilter(t, "the greatest wash", washed, batch(impl.MaxFlow, 0, 3), impl.FilterOut{F: heldBy(washed, 0), Clean: batch(0, 0, 3), Waste: batch(impl.MaxFlow, impl.MaxGrams, 0), Head: 10})
	most := batch(5, slices.Repeat([]int64{4}, impl.MaxParts)...)
	sameFilter(t, "MaxParts", impl.Filter{Most: 9, Catch: 250}, most, impl.FilterOut{F: impl.Filter{Held: 1, Most: 9, Catch: 250}, Clean: batch(5, 3, 4, 4, 4, 4, 4), Waste: batch(0, 0, 0, 0, 0, 0, 0), Head: 19})
}

func TestFilterStepForm(t *testing.T) {
	for what, f := range wrongFilters() {
		sameFilter(t, what, f, batch(10, 3), filterFault(impl.ErrForm))
		sameFilter(t, what+", no parts", f, batch(10), filterFault(impl.ErrForm))
		sameFilter(t, what+", too much", f, batch(0, impl.MaxGrams), filterFault(impl.ErrForm))
	}
	f, full := impl.Filter{Most: 10, Catch: 500, Wash: 4}, impl.Filter{Held: impl.MaxGrams, Catch: 1000}
	for what, b := range wrongBatches() {
		sameFilter(t, what, f, b, filterFault(impl.ErrForm))
		sameFilter(t, what+", full", full, b, filterFault(impl.ErrForm))
	}
	for _, b := range []impl.Batch{{}, batch(10), {Water: 10, Parts: []int64{}}, batch(impl.MaxWater)} {
		sameFilter(t, "no parts", f, b, filterFault(impl.ErrForm))
		sameFilter(t, "no parts, full", full, b, filterFault(impl.ErrForm))
	}
}

func TestFilterStepOver(t *testing.T) {
	f := impl.Filter{Held: impl.MaxGrams - 5, Most: 10, Catch: 1000, Wash: 4}
	sameFilter(t, "just MaxGrams, and washed", f, batch(10, 5), impl.FilterOut{F: heldBy(f, 0), Clean: batch(6, 0), Waste: batch(4, impl.MaxGrams), Head: 10})
	sameFilter(t, "one beyond, though it could be washed", f, batch(10, 6), filterFault(impl.ErrOver))
	sameFilter(t, "one beyond, too little water", f, batch(3, 6), filterFault(impl.ErrOver))
	f.Catch = 500
	sameFilter(t, "rounded down to MaxGrams", f, batch(10, 11), impl.FilterOut{F: heldBy(f, 0), Clean: batch(6, 6), Waste: batch(4, impl.MaxGrams), Head: 10})
	sameFilter(t, "one beyond by half", f, batch(10, 12), filterFault(impl.ErrOver))
	full := impl.Filter{Held: impl.MaxGrams, Most: impl.MaxGrams, Catch: 1000}
	sameFilter(t, "all at their most", full, batch(impl.MaxWater, impl.MaxGrams), filterFault(impl.ErrOver))
}

func TestFilterStepOfAny(t *testing.T) {
	random := rand.New(rand.NewSource(54))
	washed, refused := 0, 0
	for range 6000 {
		grams := []int64{20, 5000, impl.MaxGrams}[random.Intn(3)]
		f, b := anyFilter(random, grams), anyBatch(random, 1+random.Intn(impl.MaxParts), grams)
		want := plainFilter(f, b)
		sameFilter(t, "any", f, b, want)
		if want.Code != impl.OK {
			refused++
		} else if want.F.Held == 0 && want.Waste.Parts[0] > 0 {
			washed++
		}
	}
	if washed < 1000 || washed > 5000 || refused < 100 {
		t.Errorf("%d are washed, %d refused: too few or too many to tell", washed, refused)
	}
}

func TestFilterStepNewMemory(t *testing.T) {
	for _, f := range []impl.Filter{{}, {Most: 10, Catch: 500, Wash: 4}, {Most: 99, Catch: 500}} {
		b := batch(10, 30, 9)
		want, got := impl.FilterStep(f, b), impl.FilterStep(f, b)
		spoilParts(got.Clean.Parts)
		if !sameBatch(got.Waste, want.Waste) {
			t.Errorf("FilterStep by %+v: Waste shares memory with Clean", f)
		}
		got = impl.FilterStep(f, b)
		spoilParts(got.Waste.Parts)
		if !sameBatch(got.Clean, want.Clean) {
			t.Errorf("FilterStep by %+v: Clean shares memory with Waste", f)
		}
		if !sameBatch(b, batch(10, 30, 9)) {
			t.Errorf("FilterStep by %+v: an answer shares memory with the batch", f)
		}
		sameFilter(t, "once more", f, b, want)
	}
}

// sameContact also holds what was handed in against what it was, and asks once more with both lists changed over.
func sameContact(t *testing.T, what string, doses []float64, minutes []float64, want float64) {
	t.Helper()
	dosesBefore, minutesBefore := slices.Clone(doses), slices.Clone(minutes)
	sameBits(t, "ContactOf, "+what, impl.ContactOf(doses, minutes), want)
	sameBits(t, "ContactOf, changed over, "+what, impl.ContactOf(minutes, doses), want)
	for i := range doses {
		sameBits(t, "doses, "+what, doses[i], dosesBefore[i])
	}
	for i := range minutes {
		sameBits(t, "minutes, "+what, minutes[i], minutesBefore[i])
	}
}

func TestContactOfByHand(t *testing.T) {
	sameContact(t, "none", nil, nil, 0)
	sameContact(t, "none and an empty list", nil, []float64{}, 0)
	sameContact(t, "one", []float64{1.5}, []float64{3}, 4.5)
	sameContact(t, "two", []float64{2, 3}, []float64{5, 4}, 22)
	sameContact(t, "place by place", []float64{1, 10, 100}, []float64{2, 3, 5}, 532)
	sameContact(t, "noughts", []float64{0, minusNought(), minusNought()}, []float64{minusNought(), 7, 0}, 0)
	sameContact(t, "a nought below counts", []float64{minusNought(), 2}, []float64{7, 3}, 6)
	sameContact(t, "in order", []float64{1e8, 1, 1}, []float64{1e8, 0.6, 0.6}, 1e16)
	sameContact(t, "in the other order", []float64{1, 1, 1e8}, []float64{0.6, 0.6, 1e8}, 1e16+2)
	sameContact(t, "tiny", []float64{math.SmallestNonzeroFloat64}, []float64{3}, 3*math.SmallestNonzeroFloat64)
	sameContact(t, "the edges", []float64{edge, edge}, []float64{edge, 1}, 1e18+1e9)
}

// A product that were put together with the sum would keep what its own rounding drops: it
// is just above 1, and the sum of great and 1 lies half way between two floats.
func TestContactOfRoundsEachProduct(t *testing.T) {
	step := math.Ldexp(1, -27)
	dose, lasts, great := 1+step, 1-step+math.Ldexp(1, -53), math.Ldexp(1, 53)
	if dose*lasts != 1 || math.FMA(dose, lasts, great) == great {
		t.Fatal("this product tells nothing")
	}
	sameContact(t, "each product by itself", []float64{math.Ldexp(1, 26), dose}, []float64{math.Ldexp(1, 27), lasts}, great)
}

func TestContactOfLeavesOut(t *testing.T) {
	wrong := append(noMeasures(), -1, -edge, -math.SmallestNonzeroFloat64, -0.5)
	for _, x := range wrong {
		sameContact(t, "a dose", []float64{x, 2}, []float64{5, 3}, 6)
		sameContact(t, "minutes", []float64{5, 2}, []float64{x, 3}, 6)
		sameContact(t, "the last dose", []float64{2, x}, []float64{3, 5}, 6)
		sameContact(t, "beside a nought", []float64{x, 2}, []float64{0, 3}, 6)
		sameContact(t, "alone", []float64{x}, []float64{1}, 0)
		sameContact(t, "both", []float64{x, 2}, []float64{x, 3}, 6)
		for _, y := range wrong {
			sameContact(t, "two kinds", []float64{x, 2, y}, []float64{y, 3, x}, 6)
		}
	}
}

func TestContactOfLengths(t *testing.T) {
	for _, c := range [][2]int{{0, 1}, {1, 2}, {3, 2}, {impl.MaxList, 0}, {impl.MaxList, impl.MaxList - 1}, {impl.MaxList, impl.MaxList + 1}, {impl.MaxList + 1, 0}, {impl.MaxList + 1, impl.MaxList + 2}} {
		sameContact(t, "two lengths", repeated(1, c[0]), repeated(1, c[1]), 0)
	}
	sameContact(t, "MaxList", repeated(2, impl.MaxList), repeated(3, impl.MaxList), 6*impl.MaxList)
	sameContact(t, "one more", repeated(2, impl.MaxList+1), repeated(3, impl.MaxList+1), 0)
	sameContact(t, "far more", repeated(2, 9999), repeated(3, 9999), 0)
}
