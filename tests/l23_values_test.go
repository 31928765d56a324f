package tests

import (
	"math"
	"math/rand"
	"slices"
	"testing"

	"loop.example/g00068/impl"
)

func sameHistoryAt(t *testing.T, what string, list []impl.Point, at int64, want int64) {
	t.Helper()
	what = "HistoryAt, " + what
	watchedPoints(t, what, list, func(own []impl.Point) {
		t.Helper()
		if got := impl.HistoryAt(own, at); got != want {
			t.Errorf("%s: got %d at %d, want %d", what, got, at, want)
		}
	})
}

// sameUnpack writes what is told over, so that the next answer would show what is kept.
func sameUnpack(t *testing.T, what string, list []impl.Point, count int64, want []int64) {
	t.Helper()
	what = "HistoryUnpack, " + what
	watchedPoints(t, what, list, func(own []impl.Point) {
		t.Helper()
		for range 2 {
			got := impl.HistoryUnpack(own, count)
			samePlaces(t, what, got, want)
			for i := range got {
				got[i] = -9
			}
		}
	})
}

func sameWorst(t *testing.T, what string, values []int64, list []impl.Point, want int64) {
	t.Helper()
	what = "HistoryWorst, " + what
	watchedPoints(t, what, list, func(ownList []impl.Point) {
		t.Helper()
		watchedValues(t, what, values, func(ownValues []int64) {
			t.Helper()
			if got := impl.HistoryWorst(ownValues, ownList); got != want {
				t.Errorf("%s: got %d, want %d", what, got, want)
			}
		})
	})
}

// plainValueAt goes from the last Point to the first.
func plainValueAt(list []impl.Point, at int64) int64 {
	for _, p := range slices.Backward(list) {
		if p.At <= at {
			return p.Value
		}
	}
	return 0
}

func TestHistoryAtByHand(t *testing.T) {
	list := points(0, 1, 2, 5, 4, -3)
	for at, want := range []int64{1, 1, 5, 5, -3, -3, -3} {
		sameHistoryAt(t, "by hand", list, int64(at), want)
	}
	for _, at := range []int64{-1, -2, -300, math.MinInt64} {
		sameHistoryAt(t, "ahead of the first one", list, at, 0)
	}
	for _, at := range []int64{298, 299, 300, 301, 1 << 32, math.MaxInt64} {
		sameHistoryAt(t, "behind the last one", list, at, -3)
	}
	full := eachPlace(300, 8, -8)
	for at := range int64(310) {
		sameHistoryAt(t, "as many as may be", full, at, []int64{8, -8}[min(at, 299)%2])
		sameHistoryAt(t, "one alone", points(0, 7), at, 7)
	}
	sameHistoryAt(t, "ahead of the last place", points(0, 1, 299, 2), 298, 1)
	sameHistoryAt(t, "the last place", points(0, 1, 299, 2), 299, 2)
}

func TestHistoryAtWrong(t *testing.T) {
	ats := append(furthest(), -1, 0, 1, 5, 140, 299, 300)
	for what, list := range wrongHistories() {
		for _, at := range ats {
			sameHistoryAt(t, what, list, at, 0)
		}
	}
	for _, at := range ats {
		sameHistoryAt(t, "none, nil", nil, at, 0)
		sameHistoryAt(t, "none", []impl.Point{}, at, 0)
	}
}

func TestHistoryAtOfAny(t *testing.T) {
	random := rand.New(rand.NewSource(231))
	for range 500 {
		list := anyHistory(random)
		for at := int64(-2); at < 303; at++ {
			sameHistoryAt(t, "any", list, at, plainValueAt(list, at))
		}
	}
}

func TestHistoryUnpackByHand(t *testing.T) {
	list := points(0, 1, 2, 5, 4, -3)
	want := []int64{1, 1, 5, 5, -3, -3, -3}
	for count := range want {
		sameUnpack(t, "by hand", list, int64(count), want[:count])
	}
	sameUnpack(t, "one alone", points(0, -7), 4, numbers(-7, 4))
	sameUnpack(t, "a nought", points(0, 0), 2, []int64{0, 0})
	sameUnpack(t, "fewer than there are Points", eachPlace(300, 4, -4), 3, []int64{4, -4, 4})
	sameUnpack(t, "the last place", points(0, 1, 299, 2), 300, append(numbers(1, 299), 2))
	sameUnpack(t, "the last place is not asked for", points(0, 1, 299, 2), 299, numbers(1, 299))
}

func TestHistoryUnpackLimits(t *testing.T) {
	for count := range int64(impl.MaxPoints + 1) {
		sameUnpack(t, "one alone", points(0, impl.MaxFlow), count, numbers(impl.MaxFlow, int(count)))
	}
	for what, list := range rightHistories() {
		for _, count := range []int64{0, 1, 150, 299, 300} {
			if len(list) > 0 {
				var want []int64
				for at := range count {
					want = append(want, plainValueAt(list, at))
				}
				sameUnpack(t, what, list, count, want)
			}
		}
		for beyond, count := range beside(0, impl.MaxPoints) {
			sameUnpack(t, what+", a count "+beyond, list, count, nil)
		}
	}
}

func TestHistoryUnpackWrong(t *testing.T) {
	counts := append(furthest(), -1, 0, 1, 5, 300, 301)
	for what, list := range wrongHistories() {
		for _, count := range counts {
			sameUnpack(t, what, list, count, nil)
		}
	}
	for _, count := range counts {
		sameUnpack(t, "none, nil", nil, count, nil)
		sameUnpack(t, "none", []impl.Point{}, count, nil)
	}
}

func TestHistoryWorstByHand(t *testing.T) {
	most := int64(impl.MaxFlow)
	list := points(0, 1, 2, 5, 4, -3)
	sameWorst(t, "as it is", []int64{1, 1, 5, 5, -3, -3}, list, 0)
	sameWorst(t, "one above", []int64{1, 2, 5, 5, -3, -3}, list, 1)
	sameWorst(t, "below is worse", []int64{1, 2, 5, 1, -3, -3}, list, 4)
	sameWorst(t, "above is worse", []int64{1, -2, 5, 1, -3, 4}, list, 7)
	sameWorst(t, "the first one", []int64{3, 1, 5, 5, -3, -3}, list, 2)
	sameWorst(t, "the last one", []int64{3, 1, 5, 5, -3, -6}, list, 3)
	sameWorst(t, "fewer values", []int64{3}, list, 2)
	sameWorst(t, "behind the last Point", append([]int64{1, 1, 5, 5}, numbers(-4, 296)...), list, 1)
	sameWorst(t, "no values, nil", nil, list, 0)
	sameWorst(t, "no values", []int64{}, list, 0)
	sameWorst(t, "nothing at all", nil, nil, 0)
	sameWorst(t, "no Points", []int64{3, -8, 5}, nil, 8)
	sameWorst(t, "an empty list of Points", []int64{-3, 8, 5}, []impl.Point{}, 8)
	sameWorst(t, "no Points and noughts", []int64{0, 0}, nil, 0)
	sameWorst(t, "as far as may be, above", []int64{most}, points(0, -most), 2*most)
	sameWorst(t, "as far as may be, below", []int64{-most}, points(0, most), 2*most)
	sameWorst(t, "as far as may be from none", numbers(-most, impl.MaxPoints), nil, most)
	sameWorst(t, "in the end", append(numbers(0, 299), 7), points(0, 0, 299, 5), 2)
}

func TestHistoryWorstWrong(t *testing.T) {
	for what, list := range wrongHistories() {
		if len(list) > impl.MaxList {
			continue
		}
		sameWorst(t, what+", no values", nil, list, -1)
		sameWorst(t, what, []int64{5, 7, 7}, list, -1)
		sameWorst(t, what+", too many values", numbers(5, impl.MaxPoints+1), list, -1)
	}
	for what, values := range wrongValues() {
		if len(values) > impl.MaxList {
			continue
		}
		sameWorst(t, what+", no Points", values, nil, -1)
		sameWorst(t, what, values, tideway(), -1)
	}
	sameWorst(t, "MaxList of both", numbers(1, impl.MaxList), eachPlace(impl.MaxList, 1, 1), -1)
}

// TestHistoryWorstMaxList: lists that are too long are looked for ahead of all else.
func TestHistoryWorstMaxList(t *testing.T) {
	values, list := numbers(1, impl.MaxList+1), eachPlace(impl.MaxList+1, 1, 1)
	sameWorst(t, "both above MaxList", values, list, 0)
	sameWorst(t, "values above MaxList", values, tideway(), 0)
	sameWorst(t, "values above MaxList, no Points", values, nil, 0)
	sameWorst(t, "values above MaxList, wrong Points", values, points(1, 5), 0)
	sameWorst(t, "Points above MaxList", []int64{1, 2}, list, 0)
	sameWorst(t, "Points above MaxList, no values", nil, list, 0)
	sameWorst(t, "Points above MaxList, wrong values", []int64{impl.MaxFlow + 1}, list, 0)
	sameWorst(t, "wrong values above MaxList", numbers(math.MinInt64, impl.MaxList+1), nil, 0)
}

func TestHistoryWorstOfAny(t *testing.T) {
	random := rand.New(rand.NewSource(232))
	for range 3000 {
		values, list := anyValues(random), anyHistory(random)
		if random.Intn(3) > 0 {
			list = impl.HistoryPack(values, packBand(random))
		}
		want := int64(0)
		for at, value := range values {
			want = max(want, plainAbs(value-plainValueAt(list, int64(at))))
		}
		sameWorst(t, "any", values, list, want)
	}
}
