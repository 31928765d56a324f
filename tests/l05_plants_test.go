package tests

import (
	"math"
	"math/rand"
	"slices"
	"testing"

	"loop.example/g00068/impl"
)

func plantFault(code int64) impl.PlantOut {
	return impl.PlantOut{Code: code}
}

// samePlant also holds what was handed in against what it was.
func samePlant(t *testing.T, what string, f impl.Filter, mills []int64, list []impl.Batch, want impl.PlantOut) {
	t.Helper()
	millsBefore, before := slices.Clone(mills), copiedBatches(list)
	got := impl.PlantRun(f, mills, list)
	if !sameBatch(got.Clean, want.Clean) || !sameBatch(got.Waste, want.Waste) || got.Filter != want.Filter || got.Washes != want.Washes || got.Code != want.Code {
		t.Errorf("PlantRun, %s: got %+v, want %+v", what, got, want)
	}
	if !slices.Equal(mills, millsBefore) || !slices.EqualFunc(list, before, sameBatch) {
		t.Errorf("PlantRun, %s: what was handed in was changed", what)
	}
}

// plainPlant goes by SettleBatch, FilterStep and MixBatches alone, as chapter 6 says it of PlantRun.
func plainPlant(f impl.Filter, mills []int64, list []impl.Batch) impl.PlantOut {
	var clean, waste []impl.Batch
	washes := int64(0)
	for _, b := range list {
		pair := impl.SettleBatch(b, mills)
		if pair.Code != impl.OK {
			return plantFault(pair.Code)
		}
		step := impl.FilterStep(f, pair.First)
		if step.Code != impl.OK {
			return plantFault(step.Code)
		}
		if share(pair.First.Parts[0], f.Catch, 1000)+f.Held != step.F.Held {
			washes++
		}
		f, clean, waste = step.F, append(clean, step.Clean), append(waste, pair.Second, step.Waste)
	}
	out, dirt := impl.MixBatches(clean), impl.MixBatches(waste)
	if code := max(out.Code, dirt.Code); code != impl.OK {
		return plantFault(code)
	}
	return impl.PlantOut{Clean: out.First, Waste: dirt.First, Filter: f, Washes: washes}
}

func TestPlantRunByHand(t *testing.T) {
	f := impl.Filter{Most: 10, Catch: 500, Wash: 4}
	samePlant(t, "one batch", f, []int64{0}, []impl.Batch{batch(10, 30)}, impl.PlantOut{Clean: batch(6, 15), Waste: batch(4, 15), Filter: f, Washes: 1})
	samePlant(t, "one that settles", f, []int64{500}, []impl.Batch{batch(10, 30)}, impl.PlantOut{Clean: batch(10, 8), Waste: batch(0, 15), Filter: heldBy(f, 7)})
	samePlant(t, "two, the second washed", f, []int64{500}, []impl.Batch{batch(10, 30), batch(10, 20)},
		impl.PlantOut{Clean: batch(16, 13), Waste: batch(4, 37), Filter: f, Washes: 1})
	samePlant(t, "two parts, each by its own mill", f, []int64{200, 1000}, []impl.Batch{batch(10, 10, 6), batch(5, 20, 7)},
		impl.PlantOut{Clean: batch(11, 12, 0), Waste: batch(4, 18, 13), Filter: f, Washes: 1})
	samePlant(t, "washed twice", f, []int64{0}, []impl.Batch{batch(10, 30), batch(4, 8), batch(5, 20)},
		impl.PlantOut{Clean: batch(11, 29), Waste: batch(8, 29), Filter: f, Washes: 2})
	samePlant(t, "washed as soon as there is water", f, []int64{0}, []impl.Batch{batch(3, 30), batch(3, 10), batch(4, 0)},
		impl.PlantOut{Clean: batch(6, 20), Waste: batch(4, 20), Filter: f, Washes: 1})
	samePlant(t, "what the filter held", heldBy(f, 9), []int64{0}, []impl.Batch{batch(9, 2), batch(9, 2)},
		impl.PlantOut{Clean: batch(14, 2), Waste: batch(4, 11), Filter: f, Washes: 1})
}

func TestPlantRunEdges(t *testing.T) {
	free := impl.Filter{Catch: 1000}
	samePlant(t, "washes without water count", free, []int64{0}, []impl.Batch{batch(0, 5), batch(0, 0), batch(0, 2)},
		impl.PlantOut{Clean: batch(0, 0), Waste: batch(0, 7), Filter: free, Washes: 2})
	samePlant(t, "nothing comes", impl.Filter{}, []int64{9, 9}, []impl.Batch{batch(0, 0, 0)}, impl.PlantOut{Clean: batch(0, 0, 0), Waste: batch(0, 0, 0)})
	most := slices.Repeat([]int64{1}, impl.MaxParts)
	samePlant(t, "MaxParts", impl.Filter{}, make([]int64, impl.MaxParts), []impl.Batch{batch(1, most...), batch(2, most...)},
		impl.PlantOut{Clean: batch(3, slices.Repeat([]int64{2}, impl.MaxParts)...), Waste: batch(0, make([]int64, impl.MaxParts)...)})
}

func TestPlantRunForm(t *testing.T) {
	f, good := impl.Filter{Most: 10, Catch: 500, Wash: 4}, batch(10, 3, 3, 3)
	mills := []int64{100, 0, 1000}
	fault := plantFault(impl.ErrForm)
	samePlant(t, "none", f, mills, nil, fault)
	samePlant(t, "an empty list", f, mills, []impl.Batch{}, fault)
	samePlant(t, "nothing at all", impl.Filter{}, nil, nil, fault)
	for what, wrong := range wrongFilters() {
		samePlant(t, what, wrong, mills, []impl.Batch{good, good}, fault)
		samePlant(t, what+", none", wrong, mills, nil, fault)
	}
	for what, bad := range wrongBatches() {
		samePlant(t, what+", alone", f, []int64{0}, []impl.Batch{bad}, fault)
		samePlant(t, what+", alone, as many mills", f, make([]int64, min(len(bad.Parts), impl.MaxList)), []impl.Batch{bad}, fault)
		samePlant(t, what+", first", f, mills, []impl.Batch{bad, good}, fault)
		samePlant(t, what+", last", f, mills, []impl.Batch{good, good, bad}, fault)
	}
	for _, other := range [][]int64{nil, {}, {0}, {0, 0}, {0, 0, 0, 0}, {-1, 0, 0}, {0, 1001, 0}, {0, 0, math.MinInt64}, make([]int64, impl.MaxList)} {
		samePlant(t, "wrong mills", f, other, []impl.Batch{good}, fault)
	}
	samePlant(t, "no parts", f, nil, []impl.Batch{batch(10)}, fault)
	samePlant(t, "one apart", f, mills, []impl.Batch{good, batch(10, 3, 3)}, fault)
}

func TestPlantRunFirstFault(t *testing.T) {
	stuck := impl.Filter{Held: impl.MaxGrams, Catch: 1000, Wash: 1}
	bad, still, full := batch(-1, 1), batch(0, 0), batch(0, 1)
	samePlant(t, "over at once", stuck, []int64{0}, []impl.Batch{full}, plantFault(impl.ErrOver))
	samePlant(t, "over behind others", stuck, []int64{0}, []impl.Batch{still, full}, plantFault(impl.ErrOver))
	samePlant(t, "over ahead of what is not right", stuck, []int64{0}, []impl.Batch{full, bad}, plantFault(impl.ErrOver))
	samePlant(t, "over ahead of what is apart", stuck, []int64{0}, []impl.Batch{full, batch(0, 1, 1)}, plantFault(impl.ErrOver))
	samePlant(t, "what is not right ahead of over", stuck, []int64{0}, []impl.Batch{still, bad, full}, plantFault(impl.ErrForm))
	samePlant(t, "what settles is not held", stuck, []int64{1000}, []impl.Batch{full}, impl.PlantOut{Clean: still, Waste: full, Filter: stuck})
	great := batch(impl.MaxWater, 0)
	samePlant(t, "what is not right ahead of sums that are over", impl.Filter{}, []int64{0}, []impl.Batch{great, great, bad}, plantFault(impl.ErrForm))
}

func TestPlantRunOver(t *testing.T) {
	over := plantFault(impl.ErrOver)
	none := impl.Filter{}
	half := batch(impl.MaxWater/2, impl.MaxGrams/2)
	samePlant(t, "clean just at its most", none, []int64{0}, []impl.Batch{half, half}, impl.PlantOut{Clean: batch(impl.MaxWater, impl.MaxGrams), Waste: batch(0, 0)})
	samePlant(t, "clean water one beyond", none, []int64{0}, []impl.Batch{half, half, batch(1, 0)}, over)
	samePlant(t, "clean grams one beyond", none, []int64{0}, []impl.Batch{half, half, batch(0, 1)}, over)
	samePlant(t, "settled just at its most", none, []int64{1000}, []impl.Batch{half, half}, impl.PlantOut{Clean: batch(impl.MaxWater, 0), Waste: batch(0, impl.MaxGrams)})
	samePlant(t, "settled one beyond", none, []int64{1000}, []impl.Batch{half, half, batch(0, 1)}, over)
	samePlant(t, "another part settled one beyond", none, []int64{0, 1000}, []impl.Batch{batch(0, 0, impl.MaxGrams), batch(0, 0, 1)}, over)
	washed := impl.Filter{Catch: 1000}
	samePlant(t, "washed out just at its most", washed, []int64{0}, []impl.Batch{half, half}, impl.PlantOut{Clean: batch(impl.MaxWater, 0), Waste: batch(0, impl.MaxGrams), Filter: washed, Washes: 2})
	samePlant(t, "washed out one beyond", washed, []int64{0}, []impl.Batch{half, half, batch(0, 1)}, over)
	samePlant(t, "settled and washed out one beyond", washed, []int64{500}, []impl.Batch{half, half, batch(0, 1)}, over)
}

func TestPlantRunSize(t *testing.T) {
	f := impl.Filter{Most: 10, Catch: 1000, Wash: 1}
	most := slices.Repeat([]impl.Batch{batch(2, 11)}, impl.MaxSteps)
	samePlant(t, "MaxSteps", f, []int64{0}, most, impl.PlantOut{Clean: batch(impl.MaxSteps, 0), Waste: batch(impl.MaxSteps, 11*impl.MaxSteps), Filter: f, Washes: impl.MaxSteps})
	fault := plantFault(impl.ErrSize)
	for _, count := range []int{impl.MaxSteps + 1, impl.MaxList, impl.MaxList + 1} {
		for _, b := range []impl.Batch{batch(2, 11), {}, batch(-1), batch(impl.MaxWater, impl.MaxGrams)} {
			more := slices.Repeat([]impl.Batch{b}, count)
			samePlant(t, "more than MaxSteps", f, []int64{0}, more, fault)
			samePlant(t, "more than MaxSteps, no mills", f, nil, more, fault)
			samePlant(t, "more than MaxSteps, no filter", impl.Filter{Held: -1}, []int64{0}, more, fault)
		}
	}
	long := make([]int64, impl.MaxList+1)
	samePlant(t, "too many mills", f, long, most, fault)
	samePlant(t, "too many mills, none", f, long, nil, fault)
	samePlant(t, "too many mills, a wrong filter", impl.Filter{Held: -1}, long, []impl.Batch{batch(-1)}, fault)
	samePlant(t, "as many mills as parts, too many", f, long, []impl.Batch{batch(0, long...)}, fault)
}

func TestPlantRunIsStepByStep(t *testing.T) {
	random := rand.New(rand.NewSource(55))
	washed, refused := 0, 0
	for range 4000 {
		grams := []int64{20, 5000, impl.MaxGrams / 20, impl.MaxGrams}[random.Intn(4)]
		f, count := anyFilter(random, grams), 1+random.Intn(impl.MaxParts)
		mills, list := anyMills(random, count), make([]impl.Batch, 1+random.Intn(12))
		for i := range list {
			list[i] = anyBatch(random, count, grams)
		}
		if random.Intn(20) == 0 {
			list[random.Intn(len(list))].Parts[0] = -1
		}
		want := plainPlant(f, mills, list)
		samePlant(t, "any", f, mills, list, want)
		if want.Code != impl.OK {
			refused++
		}
		if want.Washes > 1 {
			washed++
		}
	}
	if washed < 500 || refused < 300 || refused > 3000 {
		t.Errorf("%d are washed more than once, %d refused: too few or too many to tell", washed, refused)
	}
}

func TestPlantRunNewMemory(t *testing.T) {
	f, mills, list := impl.Filter{Most: 10, Catch: 500, Wash: 4}, []int64{100, 0}, []impl.Batch{batch(10, 30, 7)}
	want, got := impl.PlantRun(f, mills, list), impl.PlantRun(f, mills, list)
	spoilParts(got.Clean.Parts)
	if !sameBatch(got.Waste, want.Waste) {
		t.Error("PlantRun: Waste shares memory with Clean")
	}
	got = impl.PlantRun(f, mills, list)
	spoilParts(got.Waste.Parts)
	if !sameBatch(got.Clean, want.Clean) {
		t.Error("PlantRun: Clean shares memory with Waste")
	}
	if !slices.Equal(mills, []int64{100, 0}) || !sameBatch(list[0], batch(10, 30, 7)) {
		t.Error("PlantRun: an answer shares memory with what was handed in")
	}
	samePlant(t, "once more", f, mills, list, want)
}
