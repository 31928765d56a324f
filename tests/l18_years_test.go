package tests

import (
	"math/rand"
	"slices"
	"testing"

	"loop.example/g00068/impl"
)

func sameYears(t *testing.T, what string, list []impl.Asset, budgets []int64, want ...[]int64) {
	t.Helper()
	own := roomyPlaces(budgets)
	watchedAssets(t, "RenewYears, "+what, list, func(list []impl.Asset) {
		if got := impl.RenewYears(list, own); !sameTables(got, want) {
			t.Errorf("RenewYears, %s: got %v, want %v", what, got, want)
		}
	})
	if !keptPlaces(own, budgets) {
		t.Errorf("RenewYears, %s: the budgets were changed", what)
	}
}

func TestYearsByHand(t *testing.T) {
	sameYears(t, "no years", estate(), nil)
	sameYears(t, "an empty list of years", estate(), []int64{})
	sameYears(t, "no Assets and no years", nil, nil)
	sameYears(t, "no Assets", nil, []int64{0, 300}, nil, nil)
	sameYears(t, "one year", estate(), []int64{4}, []int64{1, 2})
	sameYears(t, "two years", estate(), []int64{4, 3}, []int64{1, 2}, []int64{0})
	sameYears(t, "two alike", estate(), []int64{2, 2, 2}, []int64{1}, []int64{2}, []int64{3})
	sameYears(t, "years of nothing", estate(), []int64{0, 0}, nil, nil)
	sameYears(t, "nothing, and then something", estate(), []int64{0, 5, 0, 7}, nil, []int64{0, 1}, nil, []int64{4})
	sameYears(t, "some left", estate(), []int64{3, 3, 6}, []int64{0}, []int64{1, 3}, []int64{2})
	sameYears(t, "all at once", estate(), []int64{15, 300}, []int64{0, 1, 2, 3, 4}, nil)
	sameYears(t, "more than there is", estate(), []int64{8, 7, 9}, []int64{0, 1, 2, 3}, []int64{4}, nil)
	sameYears(t, "the dear one never", estate(), []int64{6, 6, 6}, []int64{0, 1, 3}, []int64{2}, nil)
	sameYears(t, "not what could be kept", assets(2, 1, 3, 3), []int64{2, 3}, []int64{0}, []int64{1})
}

func TestYearsAtTheLimits(t *testing.T) {
	list := manyAssets(impl.MaxAssets, 150, 1000)
	var want [][]int64
	for year := range int64(20) {
		want = append(want, []int64{2 * year, 2*year + 1})
	}
	sameYears(t, "20 of most", list, numbers(300, 20), want...)
	sameYears(t, "21 of most", list, numbers(300, 21))
	sameYears(t, "MaxList of most", list, numbers(300, impl.MaxList))
	sameYears(t, "more than MaxList", list, numbers(300, impl.MaxList+1))
	sameYears(t, "21 of nothing", estate(), numbers(0, 21))
	sameYears(t, "20 of nothing", estate(), numbers(0, 20), make([][]int64, 20)...)
	late := append(numbers(0, 19), 300)
	sameYears(t, "the last year alone", estate(), late, append(make([][]int64, 19), rowsFrom(0, 5))...)
}

func TestYearsOfWrong(t *testing.T) {
	for what, list := range wrongAssets() {
		sameYears(t, what, list, []int64{4, 3})
		sameYears(t, what+", years of nothing", list, []int64{0})
	}
	sameYears(t, "too many Assets", manyAssets(impl.MaxList+1, 1, 1), []int64{4, 3})
	for what, n := range beside(0, 300) {
		sameYears(t, "one budget "+what, estate(), []int64{n})
		sameYears(t, "the first budget "+what, estate(), []int64{n, 3, 4})
		sameYears(t, "the last budget "+what, estate(), []int64{4, 3, n})
		sameYears(t, "a budget of no Assets "+what, nil, []int64{4, n})
		sameYears(t, "the last of 20 "+what, estate(), append(numbers(4, 19), n))
	}
}

func anyBudgets(random *rand.Rand, list []impl.Asset) []int64 {
	budgets := make([]int64, random.Intn(21))
	for i := range budgets {
		budgets[i] = anyBudget(random, list) / (1 + random.Int63n(4))
	}
	return budgets
}

// plainYears asks each year for the best of a list in which what was renewed is too dear to come in again.
func plainYears(list []impl.Asset, budgets []int64) [][]int64 {
	left := slices.Clone(list)
	var years [][]int64
	for _, budget := range budgets {
		picks := plainRenewBest(left, budget).Picks
		for _, place := range picks {
			left[place].Cost = impl.MaxBudget + 1
		}
		years = append(years, picks)
	}
	return years
}

func TestYearsOfAny(t *testing.T) {
	random := rand.New(rand.NewSource(183))
	seen := 0
	for range 400 {
		list := anyAssets(random, 9)
		budgets := anyBudgets(random, list)
		want := plainYears(list, budgets)
		sameYears(t, "any", list, budgets, want...)
		if t.Failed() {
			t.Fatalf("of %+v by %v", list, budgets)
		}
		if len(want) > 1 && len(want[0]) > 0 && len(want[1]) > 0 && want[0][0] < want[1][0] {
			seen++
		}
	}
	if seen < 50 {
		t.Errorf("%d: too few to tell", seen)
	}
}

func TestYearsAreNew(t *testing.T) {
	list, budgets := estate(), []int64{4, 4, 7}
	want := [][]int64{{1, 2}, {0, 3}, {4}}
	years := impl.RenewYears(list, budgets)
	for i := range list {
		list[i] = impl.Asset{}
	}
	budgets[0], budgets[1], budgets[2] = -9, -9, -9
	for i, picks := range years {
		_ = append(picks, -8, -8)
		if !sameTables(years, want) {
			t.Fatalf("RenewYears: got %v behind one that grew at %d", years, i)
		}
	}
	for i, picks := range years {
		picks[0] = -9
		if !sameTables(years[i+1:], want[i+1:]) {
			t.Fatalf("RenewYears: got %v behind one that was spoilt at %d", years, i)
		}
	}
	sameYears(t, "behind a spoilt answer", estate(), []int64{4, 4, 7}, want...)
}
