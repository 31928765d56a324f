package tests

import (
	"math/big"
	"math/rand"
	"testing"

	"loop.example/g00068/impl"
)

// bookOf sums batches up in numbers that know no limit: the water first, then each part.
func bookOf(count int, list ...impl.Batch) []*big.Int {
	book := make([]*big.Int, 1+count)
	for i := range book {
		book[i] = new(big.Int)
	}
	for _, b := range list {
		book[0].Add(book[0], big.NewInt(b.Water))
		for i, grams := range b.Parts {
			book[1+i].Add(book[1+i], big.NewInt(grams))
		}
	}
	return book
}

func sameBook(a []*big.Int, b []*big.Int) bool {
	for i := range a {
		if a[i].Cmp(b[i]) != 0 {
			return false
		}
	}
	return len(a) == len(b)
}

// allRight asks that what is told is right, and goes together with what it comes of.
func allRight(t *testing.T, what string, count int, list ...impl.Batch) {
	t.Helper()
	for _, b := range list {
		if !impl.BatchRight(b) || len(b.Parts) != count {
			t.Fatalf("%s of %d parts: got %+v", what, count, b)
		}
	}
}

func TestPromise11NothingIsLost(t *testing.T) {
	random := rand.New(rand.NewSource(56))
	for range 2000 {
		count := random.Intn(impl.MaxParts + 1)
		whole := anyBatch(random, count, []int64{20, 5000, impl.MaxGrams}[random.Intn(3)])
		book, pieces := bookOf(count, whole), []impl.Batch{whole}
		for range random.Intn(12) {
			at := random.Intn(len(pieces))
			pair := impl.SplitBatch(pieces[at], anyNumber(random, pieces[at].Water))
			if random.Intn(2) == 0 {
				pair = impl.SettleBatch(pieces[at], anyMills(random, count))
			}
			if pair.Code != impl.OK {
				t.Fatalf("a piece %+v is refused: %+v", pieces[at], pair)
			}
			allRight(t, "a pair", count, pair.First, pair.Second)
			if !sameBook(bookOf(count, pieces[at]), bookOf(count, pair.First, pair.Second)) {
				t.Fatalf("%+v came apart into %+v", pieces[at], pair)
			}
			pieces[at] = pair.First
			pieces = append(pieces, pair.Second)
		}
		random.Shuffle(len(pieces), func(i int, j int) { pieces[i], pieces[j] = pieces[j], pieces[i] })
		mixed := impl.MixBatches(pieces)
		if mixed.Code != impl.OK || !sameBatch(mixed.First, whole) || !sameBook(bookOf(count, mixed.First), book) {
			t.Fatalf("the pieces %+v of %+v: mixed to %+v", pieces, whole, mixed)
		}
	}
}

func TestPromise12CleanOrWasteOrHeld(t *testing.T) {
	random := rand.New(rand.NewSource(57))
	told, washed := 0, 0
	for range 3000 {
		grams := []int64{20, 5000, impl.MaxGrams / 50}[random.Intn(3)]
		f, count := anyFilter(random, grams), 1+random.Intn(impl.MaxParts)
		list := make([]impl.Batch, 1+random.Intn(30))
		for i := range list {
			list[i] = anyBatch(random, count, grams)
		}
		out := impl.PlantRun(f, anyMills(random, count), list)
		if out.Code != impl.OK {
			continue
		}
		told++
		allRight(t, "a plant", count, out.Clean, out.Waste)
		held, holds := impl.Batch{Parts: []int64{f.Held}}, impl.Batch{Parts: []int64{out.Filter.Held}}
		if !sameBook(bookOf(count, append(list, held)...), bookOf(count, out.Clean, out.Waste, holds)) {
			t.Fatalf("%+v through %+v: got %+v", list, f, out)
		}
		if heldBy(out.Filter, f.Held) != f || out.Waste.Water != out.Washes*f.Wash {
			t.Fatalf("%+v through %+v: got %+v", list, f, out)
		}
		if out.Washes > 0 {
			washed++
		}
	}
	if told < 1500 || washed < 800 {
		t.Errorf("%d are told, %d washed: too few to tell", told, washed)
	}
}

// anyFloat is now and then no measure, or below nought.
func anyFloat(random *rand.Rand) float64 {
	switch random.Intn(5) {
	case 0:
		return noMeasures()[random.Intn(len(noMeasures()))]
	case 1:
		return -random.Float64()
	}
	return random.Float64() * 1000
}

func TestPromise13WhatIsThereOfBoth(t *testing.T) {
	random := rand.New(rand.NewSource(58))
	for range 1000 {
		var doses, minutes, dosesThere, minutesThere, products []float64
		for range random.Intn(40) {
			dose, lasts := anyFloat(random), anyFloat(random)
			doses, minutes = append(doses, dose), append(minutes, lasts)
			if dose >= 0 && dose <= edge && lasts >= 0 && lasts <= edge {
				dosesThere, minutesThere = append(dosesThere, dose), append(minutesThere, lasts)
				products = append(products, dose*lasts)
			}
		}
		want := 0.0
		for _, product := range products {
			want += product
		}
		sameContact(t, "any lists", doses, minutes, want)
		sameContact(t, "only what is there", dosesThere, minutesThere, want)
		sameContact(t, "one list is longer", append(doses, 1), minutes, 0)
	}
}
