package tests

import (
	"math"
	"slices"
	"testing"

	"loop.example/g00068/impl"
)

const edge = 1000000000.0

func minusNought() float64 {
	return math.Copysign(0, -1)
}

// noMeasures are what a list may hold without its counting.
func noMeasures() []float64 {
	return []float64{
		math.NaN(), math.Inf(1), math.Inf(-1),
		math.Nextafter(edge, math.Inf(1)), math.Nextafter(-edge, math.Inf(-1)),
		edge + 1, -edge - 1, math.MaxFloat64, -math.MaxFloat64,
	}
}

func sameBits(t *testing.T, what string, got float64, want float64) {
	t.Helper()
	if math.Float64bits(got) != math.Float64bits(want) {
		t.Errorf("%s: got %v (%x), want %v (%x)", what, got, math.Float64bits(got), want, math.Float64bits(want))
	}
}

// sumAndMean holds both calls against what is wanted, and the list against what it was.
func sumAndMean(t *testing.T, what string, list []float64, sum float64, mean float64) {
	t.Helper()
	before := slices.Clone(list)
	sameBits(t, "sum, "+what, impl.SumFloats(list), sum)
	sameBits(t, "mean, "+what, impl.MeanFloats(list), mean)
	for i := range list {
		sameBits(t, "list, "+what, list[i], before[i])
	}
}

func repeated(x float64, count int) []float64 {
	return slices.Repeat([]float64{x}, count)
}

func TestKeepFloat(t *testing.T) {
	for _, c := range []struct {
		x, want float64
	}{
		{0, 0},
		{minusNought(), minusNought()},
		{1.5, 1.5},
		{-1.5, -1.5},
		{0.1, 0.10000000149011612},
		{-0.1, -0.10000000149011612},
		{edge, edge},
		{-edge, -edge},
		{math.Nextafter(edge, 0), edge},
		{math.Nextafter(-edge, 0), -edge},
		{16777217, 16777216},
		{-16777217, -16777216},
		{16777219, 16777220},
		{math.Nextafter(16777217, 20000000), 16777218},
		{math.Nextafter(16777219, 0), 16777218},
		{1 + 0x1p-24, 1},
		{1 + 0x3p-24, 1 + 0x1p-22},
		{0x1p-149, 0x1p-149},
		{0x1p-150, 0},
		{-0x1p-150, minusNought()},
		{math.Nextafter(0x1p-150, 1), 0x1p-149},
		{0x3p-150, 0x1p-148},
		{math.SmallestNonzeroFloat64, 0},
		{-math.SmallestNonzeroFloat64, minusNought()},
	} {
		sameBits(t, "KeepFloat", impl.KeepFloat(c.x), c.want)
	}
	for _, x := range noMeasures() {
		sameBits(t, "KeepFloat of no measure", impl.KeepFloat(x), 0)
	}
}

func TestPromise3Lists(t *testing.T) {
	sumAndMean(t, "none", nil, 0, 0)
	sumAndMean(t, "empty", []float64{}, 0, 0)
	sumAndMean(t, "one", []float64{-2.5}, -2.5, -2.5)
	sumAndMean(t, "some", []float64{1, 2, 4}, 7, 7.0/3)
	sumAndMean(t, "plain floats", []float64{0.1, 0.2, 0.3}, 0.6000000000000001, 0.20000000000000004)
	sumAndMean(t, "a minus nought", []float64{minusNought()}, 0, 0)
	sumAndMean(t, "minus noughts", []float64{minusNought(), minusNought()}, 0, 0)
	sumAndMean(t, "noughts count", []float64{3, 0, minusNought()}, 3, 1)
	sumAndMean(t, "both edges", []float64{edge, edge, -edge}, edge, edge/3)
	sumAndMean(t, "tiny", []float64{math.SmallestNonzeroFloat64, 0}, math.SmallestNonzeroFloat64, 0)
	sumAndMean(t, "lost in order", []float64{edge, 0x1p-24, -edge}, 0, 0)
	sumAndMean(t, "kept in order", []float64{edge, -edge, 0x1p-24}, 0x1p-24, 0x1p-24/3)
}

func TestPromise3LeavesOut(t *testing.T) {
	sumAndMean(t, "no measure at all", noMeasures(), 0, 0)
	for _, x := range noMeasures() {
		sumAndMean(t, "one that is missing", []float64{x}, 0, 0)
		measures := []float64{1, -edge, 0.1, edge}
		sum, mean := impl.SumFloats(measures), impl.MeanFloats(measures)
		for place := 0; place <= len(measures); place++ {
			sumAndMean(t, "missing at a place", slices.Insert(slices.Clone(measures), place, x), sum, mean)
			sumAndMean(t, "missing twice", slices.Insert(slices.Clone(measures), place, x, x), sum, mean)
		}
	}
	sumAndMean(t, "some missing", []float64{math.NaN(), 1, math.Inf(1), 2, -edge - 1}, 3, 1.5)
}

func TestPromise3ListSize(t *testing.T) {
	sumAndMean(t, "MaxList items", repeated(2, impl.MaxList), 2*impl.MaxList, 2)
	sumAndMean(t, "MaxList greatest ones", repeated(edge, impl.MaxList), edge*impl.MaxList, edge)
	sumAndMean(t, "one more", repeated(2, impl.MaxList+1), 0, 0)
	sumAndMean(t, "MaxList, most of them missing", append(repeated(math.NaN(), impl.MaxList-1), 2), 2, 2)
	sumAndMean(t, "one more, most of them missing", append(repeated(math.NaN(), impl.MaxList), 2), 0, 0)
}
