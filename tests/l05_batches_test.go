package tests

import (
	"math"
	"math/big"
	"math/rand"
	"slices"
	"testing"

	"loop.example/g00068/impl"
)

func batch(water int64, parts ...int64) impl.Batch {
	return impl.Batch{Water: water, Parts: parts}
}

func pairFault(code int64) impl.BatchPair {
	return impl.BatchPair{Code: code}
}

func sameBatch(a impl.Batch, b impl.Batch) bool {
	return a.Water == b.Water && slices.Equal(a.Parts, b.Parts)
}

func copiedBatch(b impl.Batch) impl.Batch {
	return impl.Batch{Water: b.Water, Parts: slices.Clone(b.Parts)}
}

func copiedBatches(list []impl.Batch) []impl.Batch {
	var copies []impl.Batch
	for _, b := range list {
		copies = append(copies, copiedBatch(b))
	}
	return copies
}

func samePair(t *testing.T, what string, got impl.BatchPair, want impl.BatchPair) {
	t.Helper()
	if !sameBatch(got.First, want.First) || !sameBatch(got.Second, want.Second) || got.Code != want.Code {
		t.Errorf("%s: got %+v, want %+v", what, got, want)
	}
}

// sameMix also holds what was handed in against what it was.
func sameMix(t *testing.T, what string, list []impl.Batch, want impl.BatchPair) {
	t.Helper()
	before := copiedBatches(list)
	samePair(t, "MixBatches, "+what, impl.MixBatches(list), want)
	if !slices.EqualFunc(list, before, sameBatch) {
		t.Errorf("MixBatches, %s: what was handed in was changed", what)
	}
}

func sameSplit(t *testing.T, what string, b impl.Batch, water int64, want impl.BatchPair) {
	t.Helper()
	before := copiedBatch(b)
	samePair(t, "SplitBatch, "+what, impl.SplitBatch(b, water), want)
	if !sameBatch(b, before) {
		t.Errorf("SplitBatch, %s: the batch was changed", what)
	}
}

func sameSettle(t *testing.T, what string, b impl.Batch, mills []int64, want impl.BatchPair) {
	t.Helper()
	before, millsBefore := copiedBatch(b), slices.Clone(mills)
	samePair(t, "SettleBatch, "+what, impl.SettleBatch(b, mills), want)
	if !sameBatch(b, before) || !slices.Equal(mills, millsBefore) {
		t.Errorf("SettleBatch, %s: what was handed in was changed", what)
	}
}

func rightBatches() []impl.Batch {
	full := slices.Repeat([]int64{impl.MaxGrams}, impl.MaxParts)
	return []impl.Batch{
		{}, batch(0), {Parts: []int64{}}, batch(1), batch(impl.MaxWater), batch(0, 0), batch(0, 1), batch(5, 7, 0, 9),
		batch(impl.MaxWater, impl.MaxGrams), batch(0, make([]int64, impl.MaxParts)...), batch(impl.MaxWater, full...),
	}
}

func wrongBatches() map[string]impl.Batch {
	wrong := map[string]impl.Batch{
		"a part too many":                   batch(10, make([]int64, impl.MaxParts+1)...),
		"a part too many, no water":         batch(0, make([]int64, impl.MaxParts+1)...),
		"as many parts as a list has items": batch(10, make([]int64, impl.MaxList)...),
		"parts beyond a list":               batch(10, make([]int64, impl.MaxList+1)...),
	}
	for _, n := range []int64{-1, impl.MaxWater + 1, math.MinInt64, math.MaxInt64} {
		wrong["water "+decimal(n)] = batch(n, 1)
		wrong["water, no parts "+decimal(n)] = batch(n)
		wrong["the first part "+decimal(n)] = batch(10, n, 1, 1)
		wrong["a part between "+decimal(n)] = batch(10, 1, n, 1)
		wrong["the last part "+decimal(n)] = batch(10, 1, 1, n)
		wrong["the only part "+decimal(n)] = batch(10, n)
	}
	return wrong
}

// share is a quotient rounded down, in numbers that know no limit.
func share(whole int64, times int64, by int64) int64 {
	product := new(big.Int).Mul(big.NewInt(whole), big.NewInt(times))
	return product.Div(product, big.NewInt(by)).Int64()
}

func less(whole impl.Batch, part impl.Batch) impl.Batch {
	left := impl.Batch{Water: whole.Water - part.Water}
	for i := range whole.Parts {
		left.Parts = append(left.Parts, whole.Parts[i]-part.Parts[i])
	}
	return left
}

func plainSplit(b impl.Batch, water int64) impl.BatchPair {
	first := impl.Batch{Water: water}
	for _, grams := range b.Parts {
		if b.Water == 0 {
			first.Parts = append(first.Parts, 0)
		} else {
			first.Parts = append(first.Parts, share(grams, water, b.Water))
		}
	}
	return impl.BatchPair{First: first, Second: less(b, first)}
}

func plainSettle(b impl.Batch, mills []int64) impl.BatchPair {
	second := impl.Batch{}
	for i, grams := range b.Parts {
		second.Parts = append(second.Parts, share(grams, mills[i], 1000))
	}
	return impl.BatchPair{First: less(b, second), Second: second}
}

// plainMix asks for right batches that go together.
func plainMix(list []impl.Batch) impl.BatchPair {
	sum := impl.Batch{Parts: make([]int64, len(list[0].Parts))}
	for _, b := range list {
		sum.Water += b.Water
		for i, grams := range b.Parts {
			sum.Parts[i] += grams
		}
	}
	if sum.Water > impl.MaxWater || len(sum.Parts) > 0 && slices.Max(sum.Parts) > impl.MaxGrams {
		return pairFault(impl.ErrOver)
	}
	return impl.BatchPair{First: sum}
}

func anyBatch(random *rand.Rand, count int, most int64) impl.Batch {
	b := impl.Batch{Water: anyNumber(random, most)}
	for range count {
		b.Parts = append(b.Parts, anyNumber(random, most))
	}
	return b
}

func anyMills(random *rand.Rand, count int) []int64 {
	mills := make([]int64, count)
	for i := range mills {
		mills[i] = anyNumber(random, 1000)
	}
	return mills
}

func TestBatchRight(t *testing.T) {
	for _, b := range rightBatches() {
		if !impl.BatchRight(b) {
			t.Errorf("BatchRight of %+v: got false", b)
		}
	}
	for what, b := range wrongBatches() {
		if impl.BatchRight(b) {
			t.Errorf("BatchRight, %s: got true", what)
		}
	}
}

func TestMixBatchesByHand(t *testing.T) {
	sameMix(t, "one", []impl.Batch{batch(5, 7, 0, 9)}, impl.BatchPair{First: batch(5, 7, 0, 9)})
	sameMix(t, "two", []impl.Batch{batch(5, 7, 0), batch(6, 1, 2)}, impl.BatchPair{First: batch(11, 8, 2)})
	sameMix(t, "three", []impl.Batch{batch(1, 10), batch(2, 20), batch(4, 40)}, impl.BatchPair{First: batch(7, 70)})
	sameMix(t, "one twice", []impl.Batch{batch(3, 4), batch(3, 4)}, impl.BatchPair{First: batch(6, 8)})
	sameMix(t, "water alone", []impl.Batch{batch(5), {Water: 6, Parts: []int64{}}}, impl.BatchPair{First: batch(11)})
	sameMix(t, "nothing of anything", []impl.Batch{{}, {}}, impl.BatchPair{})
	sameMix(t, "no water", []impl.Batch{batch(0, 3), batch(0, 4)}, impl.BatchPair{First: batch(0, 7)})
	for _, b := range rightBatches() {
		sameMix(t, "one alone", []impl.Batch{b}, impl.BatchPair{First: b})
	}
}

func TestMixBatchesForm(t *testing.T) {
	sameMix(t, "none", nil, pairFault(impl.ErrForm))
	sameMix(t, "an empty list", []impl.Batch{}, pairFault(impl.ErrForm))
	good := batch(10, 1, 1, 1)
	for what, bad := range wrongBatches() {
		sameMix(t, what+", alone", []impl.Batch{bad}, pairFault(impl.ErrForm))
		sameMix(t, what+", twice", []impl.Batch{bad, bad}, pairFault(impl.ErrForm))
		sameMix(t, what+", first", []impl.Batch{bad, good, good}, pairFault(impl.ErrForm))
		sameMix(t, what+", last", []impl.Batch{good, good, bad}, pairFault(impl.ErrForm))
	}
	for _, apart := range []impl.Batch{{}, batch(10), batch(10, 1), batch(10, 1, 1), batch(10, 1, 1, 1, 1)} {
		sameMix(t, "apart, first", []impl.Batch{apart, good, good}, pairFault(impl.ErrForm))
		sameMix(t, "apart, between", []impl.Batch{good, apart, good}, pairFault(impl.ErrForm))
		sameMix(t, "apart, last", []impl.Batch{good, good, apart}, pairFault(impl.ErrForm))
	}
}

func TestMixBatchesOver(t *testing.T) {
	over := pairFault(impl.ErrOver)
	sameMix(t, "water just at its most", []impl.Batch{batch(impl.MaxWater-1, 0), batch(1, 0)}, impl.BatchPair{First: batch(impl.MaxWater, 0)})
	sameMix(t, "water one beyond", []impl.Batch{batch(impl.MaxWater, 0), batch(1, 0)}, over)
	sameMix(t, "water one beyond, no parts", []impl.Batch{batch(1), batch(impl.MaxWater)}, over)
	sameMix(t, "a part just at its most", []impl.Batch{batch(0, 2, impl.MaxGrams-1), batch(0, 2, 1)}, impl.BatchPair{First: batch(0, 4, impl.MaxGrams)})
	sameMix(t, "the last part one beyond", []impl.Batch{batch(0, 2, impl.MaxGrams), batch(0, 2, 1)}, over)
	sameMix(t, "the first part one beyond", []impl.Batch{batch(0, 1, 1), batch(0, impl.MaxGrams, 1)}, over)
	sameMix(t, "over and not right", []impl.Batch{batch(impl.MaxWater), batch(1), batch(-1)}, pairFault(impl.ErrForm))
	sameMix(t, "over and apart", []impl.Batch{batch(impl.MaxWater, 1), batch(1, 1), batch(1)}, pairFault(impl.ErrForm))
}

func TestMixBatchesSize(t *testing.T) {
	each := batch(impl.MaxWater/impl.MaxList, impl.MaxGrams/impl.MaxList, 1)
	most := slices.Repeat([]impl.Batch{each}, impl.MaxList)
	sameMix(t, "MaxList", most, impl.BatchPair{First: batch(impl.MaxWater, impl.MaxGrams, impl.MaxList)})
	sameMix(t, "all at their most", slices.Repeat([]impl.Batch{batch(impl.MaxWater, impl.MaxGrams)}, impl.MaxList), pairFault(impl.ErrOver))
	for _, b := range []impl.Batch{each, {}, batch(-1), batch(impl.MaxWater, 1)} {
		sameMix(t, "one more", slices.Repeat([]impl.Batch{b}, impl.MaxList+1), pairFault(impl.ErrSize))
	}
	sameMix(t, "one more, apart", append(slices.Clone(most), batch(0)), pairFault(impl.ErrSize))
}

func TestMixBatchesOfAny(t *testing.T) {
	random := rand.New(rand.NewSource(51))
	refused := 0
	for range 3000 {
		count, most := random.Intn(impl.MaxParts+1), int64(impl.MaxGrams)
		if random.Intn(3) > 0 {
			most = 1 + random.Int63n(impl.MaxGrams/8)
		}
		list := make([]impl.Batch, 1+random.Intn(12))
		for i := range list {
			list[i] = anyBatch(random, count, most)
		}
		want := plainMix(list)
		sameMix(t, "any", list, want)
		if want.Code != impl.OK {
			refused++
		}
	}
	if refused < 300 || refused > 2700 {
		t.Errorf("%d of 3000 are refused: too few or too many to tell", refused)
	}
}

func TestSplitBatchByHand(t *testing.T) {
	b := batch(10, 7, 100, 0)
	sameSplit(t, "none of it", b, 0, impl.BatchPair{First: batch(0, 0, 0, 0), Second: b})
	sameSplit(t, "a little", b, 1, impl.BatchPair{First: batch(1, 0, 10, 0), Second: batch(9, 7, 90, 0)})
	sameSplit(t, "rounded down", b, 3, impl.BatchPair{First: batch(3, 2, 30, 0), Second: batch(7, 5, 70, 0)})
	sameSplit(t, "all but one", b, 9, impl.BatchPair{First: batch(9, 6, 90, 0), Second: batch(1, 1, 10, 0)})
	sameSplit(t, "all of it", b, 10, impl.BatchPair{First: b, Second: batch(0, 0, 0, 0)})
	sameSplit(t, "no water", batch(0, 7, 9), 0, impl.BatchPair{First: batch(0, 0, 0), Second: batch(0, 7, 9)})
	sameSplit(t, "no parts", batch(10), 4, impl.BatchPair{First: batch(4), Second: batch(6)})
	sameSplit(t, "nothing", impl.Batch{}, 0, impl.BatchPair{})
	full := batch(impl.MaxWater, impl.MaxGrams, impl.MaxGrams-1)
	sameSplit(t, "all at their most", full, impl.MaxWater, impl.BatchPair{First: full, Second: batch(0, 0, 0)})
	sameSplit(t, "one of the most", full, 1, impl.BatchPair{First: batch(1, 1, 0), Second: batch(impl.MaxWater-1, impl.MaxGrams-1, impl.MaxGrams-1)})
}

func TestSplitBatchForm(t *testing.T) {
	for what, b := range wrongBatches() {
		for _, water := range []int64{0, 1, 10, -1, math.MinInt64, math.MaxInt64, b.Water} {
			sameSplit(t, what, b, water, pairFault(impl.ErrForm))
		}
	}
	for _, b := range rightBatches() {
		for _, water := range []int64{-1, b.Water + 1, math.MinInt64, math.MaxInt64} {
			sameSplit(t, "wrong water", b, water, pairFault(impl.ErrForm))
		}
	}
}

func TestSplitBatchOfAny(t *testing.T) {
	random := rand.New(rand.NewSource(52))
	for range 4000 {
		b := anyBatch(random, random.Intn(impl.MaxParts+1), []int64{20, 1000, impl.MaxGrams}[random.Intn(3)])
		water := anyNumber(random, b.Water)
		sameSplit(t, "any", b, water, plainSplit(b, water))
	}
}

func TestSettleBatchByHand(t *testing.T) {
	b := batch(10, 100, 50, 7)
	sameSettle(t, "nothing settles", b, []int64{0, 0, 0}, impl.BatchPair{First: b, Second: batch(0, 0, 0, 0)})
	sameSettle(t, "all settles", b, []int64{1000, 1000, 1000}, impl.BatchPair{First: batch(10, 0, 0, 0), Second: batch(0, 100, 50, 7)})
	sameSettle(t, "each by its own mill", b, []int64{200, 0, 1000}, impl.BatchPair{First: batch(10, 80, 50, 0), Second: batch(0, 20, 0, 7)})
	sameSettle(t, "rounded down", b, []int64{1, 999, 999}, impl.BatchPair{First: batch(10, 100, 1, 1), Second: batch(0, 0, 49, 6)})
	sameSettle(t, "no parts", batch(10), nil, impl.BatchPair{First: batch(10)})
	sameSettle(t, "no parts, no mills", batch(10), []int64{}, impl.BatchPair{First: batch(10)})
	sameSettle(t, "no water", batch(0, 8), []int64{500}, impl.BatchPair{First: batch(0, 4), Second: batch(0, 4)})
	sameSettle(t, "all at their most", batch(impl.MaxWater, impl.MaxGrams, impl.MaxGrams), []int64{1000, 999},
		impl.BatchPair{First: batch(impl.MaxWater, 0, impl.MaxGrams/1000), Second: batch(0, impl.MaxGrams, impl.MaxGrams/1000*999)})
}

func TestSettleBatchForm(t *testing.T) {
	for what, b := range wrongBatches() {
		for _, mills := range [][]int64{nil, {1}, make([]int64, min(len(b.Parts), impl.MaxList)), {-1}, make([]int64, impl.MaxList)} {
			sameSettle(t, what, b, mills, pairFault(impl.ErrForm))
		}
	}
	b := batch(10, 1, 2, 3)
	for _, mills := range [][]int64{nil, {}, {1}, {1, 1}, {1, 1, 1, 1}, make([]int64, impl.MaxList)} {
		sameSettle(t, "mills of another length", b, mills, pairFault(impl.ErrForm))
	}
	sameSettle(t, "a mill of no parts", batch(10), []int64{0}, pairFault(impl.ErrForm))
	for place := range 3 {
		for _, n := range []int64{-1, 1001, math.MinInt64, math.MaxInt64} {
			mills := []int64{0, 500, 1000}
			mills[place] = n
			sameSettle(t, "a wrong mill", b, mills, pairFault(impl.ErrForm))
		}
	}
}

func TestSettleBatchSize(t *testing.T) {
	for _, mills := range [][]int64{make([]int64, impl.MaxList+1), slices.Repeat([]int64{-1}, impl.MaxList+1)} {
		sameSettle(t, "too many mills", batch(10, 1), mills, pairFault(impl.ErrSize))
		for what, b := range wrongBatches() {
			sameSettle(t, "too many mills, "+what, b, mills, pairFault(impl.ErrSize))
		}
	}
}

func TestSettleBatchOfAny(t *testing.T) {
	random := rand.New(rand.NewSource(53))
	for range 4000 {
		b := anyBatch(random, random.Intn(impl.MaxParts+1), []int64{20, 5000, impl.MaxGrams}[random.Intn(3)])
		mills := anyMills(random, len(b.Parts))
		sameSettle(t, "any", b, mills, plainSettle(b, mills))
	}
}

// spoilParts writes over a list and behind it.
func spoilParts(parts []int64) {
	for i := range parts {
		parts[i] = -9
	}
	_ = append(parts, -9)
}

// ownParts asks that no list of an answer shows what is written to another one, nor a later answer.
func ownParts(t *testing.T, what string, call func() impl.BatchPair) {
	t.Helper()
	want, got := call(), call()
	spoilParts(got.First.Parts)
	if !sameBatch(got.Second, want.Second) {
		t.Errorf("%s: both lists share memory", what)
	}
	got = call()
	spoilParts(got.Second.Parts)
	if !sameBatch(got.First, want.First) {
		t.Errorf("%s: both lists share memory", what)
	}
	spoilParts(got.First.Parts)
	samePair(t, what+", once more", call(), want)
}

func TestBatchesNewMemory(t *testing.T) {
	b := batch(10, 7, 100)
	mills := []int64{0, 0}
	ownParts(t, "MixBatches", func() impl.BatchPair { return impl.MixBatches([]impl.Batch{b}) })
	ownParts(t, "MixBatches of two", func() impl.BatchPair { return impl.MixBatches([]impl.Batch{b, b}) })
	for _, water := range []int64{0, 3, 10} {
		ownParts(t, "SplitBatch", func() impl.BatchPair { return impl.SplitBatch(b, water) })
	}
	for _, mill := range []int64{0, 500, 1000} {
		mills[0], mills[1] = mill, mill
		ownParts(t, "SettleBatch", func() impl.BatchPair { return impl.SettleBatch(b, mills) })
	}
	if !sameBatch(b, batch(10, 7, 100)) || !slices.Equal(mills, []int64{1000, 1000}) {
		t.Error("an answer shares memory with what was handed in")
	}
}
