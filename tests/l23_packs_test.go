package tests

import (
	"math"
	"math/rand"
	"slices"
	"testing"

	"loop.example/g00068/impl"
)

// samePack calls twice with values of its own, and tells if these were changed. What is told is written
// over, so that the next answer would show what is kept.
func samePack(t *testing.T, what string, values []int64, band int64, want []impl.Point) {
	t.Helper()
	what = "HistoryPack, " + what
	watchedValues(t, what, values, func(own []int64) {
		t.Helper()
		for range 2 {
			got := impl.HistoryPack(own, band)
			if !slices.Equal(got, want) {
				t.Errorf("%s: got %v, want %v", what, got, want)
			}
			for i := range got {
				got[i] = impl.Point{At: -9, Value: -9}
			}
		}
	})
}

func TestHistoryPackByHand(t *testing.T) {
	most := int64(impl.MaxFlow)
	day := []int64{1, 2, 5, 5, 1}
	for band, want := range [][]impl.Point{
		points(0, 1, 1, 2, 2, 5, 4, 1), points(0, 1, 2, 5, 4, 1), points(0, 1, 2, 5, 4, 1),
		points(0, 1, 2, 5, 4, 1), points(0, 1), points(0, 1),
	} {
		samePack(t, "a day by "+decimal(int64(band)), day, int64(band), want)
	}
	samePack(t, "none, nil", nil, 0, nil)
	samePack(t, "none", []int64{}, 0, nil)
	samePack(t, "none by the greatest band", []int64{}, most, nil)
	samePack(t, "a nought", []int64{0}, 0, points(0, 0))
	samePack(t, "a nought by the greatest band", []int64{0}, most, points(0, 0))
	samePack(t, "all alike", numbers(7, 9), 0, points(0, 7))
	samePack(t, "just within", []int64{10, 12, 8, 12}, 2, points(0, 10))
	samePack(t, "just above", []int64{10, 13, 13}, 2, points(0, 10, 1, 13))
	samePack(t, "just below", []int64{10, 7, 7}, 2, points(0, 10, 1, 7))
	samePack(t, "step by step", []int64{0, 1, 2, 3, 4, 5, 6}, 2, points(0, 0, 3, 3, 6, 6))
	samePack(t, "step by step down", []int64{0, -1, -2, -3, -4, -5, -6}, 2, points(0, 0, 3, -3, 6, -6))
	samePack(t, "held against the last Point, not the first one", []int64{0, 5, 3, 0}, 2, points(0, 0, 1, 5, 3, 0))
	samePack(t, "held against the last Point, not the value ahead", []int64{0, 2, 4}, 2, points(0, 0, 2, 4))
	samePack(t, "there and back", []int64{4, 9, 4, 9}, 4, points(0, 4, 1, 9, 2, 4, 3, 9))
	samePack(t, "through nought", []int64{-2, 2, -2}, 3, points(0, -2, 1, 2, 2, -2))
	samePack(t, "through nought, within", []int64{-2, 2, -2}, 4, points(0, -2))
	samePack(t, "from end to end", []int64{-most, most, -most}, most, points(0, -most, 1, most, 2, -most))
	samePack(t, "from nought to the ends", []int64{0, most, -most}, most, points(0, 0))
	samePack(t, "one less than the greatest band", []int64{0, most, 0}, most-1, points(0, 0, 1, most, 2, 0))
	samePack(t, "more than the greatest band", []int64{-1, most, 0}, most, points(0, -1, 1, most))
}

func TestHistoryPackLimits(t *testing.T) {
	up := make([]int64, impl.MaxPoints)
	for at := range up {
		up[at] = int64(at) - 100
	}
	for count := range impl.MaxPoints + 1 {
		var all, some []impl.Point
		for at := range int64(count) {
			all = append(all, impl.Point{At: at, Value: at - 100})
			if at%7 == 0 {
				some = append(some, impl.Point{At: at, Value: at - 100})
			}
		}
		samePack(t, "a Point for each", up[:count], 0, all)
		samePack(t, "a Point for each seventh one", up[:count], 6, some)
		samePack(t, "one Point for all", up[:count], 299, all[:min(1, count)])
	}
}

func TestHistoryPackWrong(t *testing.T) {
	for what, values := range wrongValues() {
		for _, band := range []int64{0, 5, impl.MaxFlow, -1} {
			samePack(t, what, values, band, nil)
		}
	}
	for what, band := range beside(0, impl.MaxFlow) {
		for _, values := range [][]int64{nil, {0}, {1, 2, 3}, numbers(5, impl.MaxPoints)} {
			samePack(t, "a band "+what, values, band, nil)
		}
	}
	samePack(t, "from end to end of int64", []int64{math.MinInt64, math.MaxInt64}, 0, nil)
}

// plainPack tells by the words of chapter 24.
func plainPack(values []int64, band int64) []impl.Point {
	var list []impl.Point
	last := int64(0)
	for at, value := range values {
		if at == 0 || value > last+band || value < last-band {
			last = value
			list = append(list, impl.Point{At: int64(at), Value: value})
		}
	}
	return list
}

// TestHistoryPackAllShort goes through all short values by all small bands.
func TestHistoryPackAllShort(t *testing.T) {
	for n := range int64(6 * 6 * 6 * 6 * 6) {
		values := []int64{n%6 - 2, n/6%6 - 2, n/36%6 - 2, n/216%6 - 2, n/1296 - 2}
		for band := range int64(7) {
			samePack(t, "all short ones", values, band, plainPack(values, band))
		}
	}
}

// packBand is often a small one.
func packBand(random *rand.Rand) int64 {
	return []int64{random.Int63n(6), anyNumber(random, impl.MaxFlow)}[random.Intn(2)]
}

func TestHistoryPackOfAny(t *testing.T) {
	random := rand.New(rand.NewSource(230))
	sizes := map[int]bool{}
	for range 4000 {
		values, band := anyValues(random), packBand(random)
		samePack(t, "any", values, band, plainPack(values, band))
		list := impl.HistoryPack(values, band)
		samePointsRight(t, "of a pack", list, true)
		sizes[len(list)] = true
	}
	if len(sizes) < 100 {
		t.Errorf("%d sizes: too few to tell", len(sizes))
	}
}
