package tests

import (
	"math/rand"
	"slices"
	"testing"

	"loop.example/g00068/impl"
)

// assets are given as costs and worths by turns.
func assets(costsAndWorths ...int64) []impl.Asset {
	var list []impl.Asset
	for pair := range slices.Chunk(costsAndWorths, 2) {
		list = append(list, impl.Asset{Cost: pair[0], Worth: pair[1]})
	}
	return list
}

// estate has two Assets alike, one that is worth nothing, and one above small budgets.
func estate() []impl.Asset {
	return assets(3, 5, 2, 4, 2, 4, 1, 0, 7, 9)
}

func manyAssets(count int, cost int64, worth int64) []impl.Asset {
	return slices.Repeat(assets(cost, worth), count)
}

func changedAssets(list []impl.Asset, change func(list []impl.Asset)) []impl.Asset {
	list = slices.Clone(list)
	change(list)
	return list
}

// watchedAssets calls with Assets of its own, with room behind them, and tells if these were changed.
func watchedAssets(t *testing.T, what string, list []impl.Asset, call func(list []impl.Asset)) {
	t.Helper()
	want := slices.Concat(list, assets(-7, -7, -7, -7))
	given := slices.Clone(want)
	own := given[:len(list)]
	if list == nil {
		own = nil
	}
	call(own)
	if !slices.Equal(given, want) {
		t.Errorf("%s: the Assets were changed", what)
	}
}

func renewed(cost int64, worth int64, picks ...int64) impl.RenewOut {
	return impl.RenewOut{Picks: picks, Cost: cost, Worth: worth}
}

func renewFault(code int64) impl.RenewOut {
	return impl.RenewOut{Code: code}
}

func sameRenewal(t *testing.T, what string, got impl.RenewOut, want impl.RenewOut) {
	t.Helper()
	if got.Cost != want.Cost || got.Worth != want.Worth || got.Code != want.Code || !slices.Equal(got.Picks, want.Picks) {
		t.Errorf("%s: got %+v, want %+v", what, got, want)
	}
}

// wrongAssets are right but for what their names say, and no more than MaxList.
func wrongAssets() map[string][]impl.Asset {
	wrong := map[string][]impl.Asset{
		"one of nothing":      {{}},
		"one more than most":  manyAssets(impl.MaxAssets+1, 1, 1),
		"MaxList":             manyAssets(impl.MaxList, 1, 1),
		"MaxList, all wrong":  manyAssets(impl.MaxList, 0, -1),
		"the last of most":    changedAssets(manyAssets(impl.MaxAssets, 1, 1), func(list []impl.Asset) { list[39].Cost = 0 }),
		"the most, all wrong": manyAssets(impl.MaxAssets, 301, 1001),
	}
	for place := range estate() {
		at := " at " + decimal(int64(place))
		for what, n := range beside(1, 300) {
			wrong["Cost"+at+" is "+what] = changedAssets(estate(), func(list []impl.Asset) { list[place].Cost = n })
		}
		for what, n := range beside(0, 1000) {
			wrong["Worth"+at+" is "+what] = changedAssets(estate(), func(list []impl.Asset) { list[place].Worth = n })
		}
	}
	return wrong
}

// rightAssets are at the limits, or of little.
func rightAssets() map[string][]impl.Asset {
	return map[string][]impl.Asset{
		"none, nil":              nil,
		"none":                   {},
		"an estate":              estate(),
		"one at its least":       assets(1, 0),
		"one at its most":        assets(300, 1000),
		"dear and worth nothing": assets(300, 0, 1, 1000),
		"MaxAssets":              manyAssets(impl.MaxAssets, 1, 1000),
		"MaxAssets, dear":        manyAssets(impl.MaxAssets, 300, 0),
	}
}

func sameAssetsRight(t *testing.T, what string, list []impl.Asset, want bool) {
	t.Helper()
	watchedAssets(t, "AssetsRight, "+what, list, func(list []impl.Asset) {
		if got := impl.AssetsRight(list); got != want {
			t.Errorf("AssetsRight, %s: got %v of %+v", what, got, list)
		}
	})
}

func TestAssetsRight(t *testing.T) {
	for what, list := range rightAssets() {
		sameAssetsRight(t, what, list, true)
	}
	for what, list := range wrongAssets() {
		sameAssetsRight(t, what, list, false)
	}
	sameAssetsRight(t, "more than MaxList", manyAssets(impl.MaxList+1, 1, 1), false)
}

func sameRenewOf(t *testing.T, what string, list []impl.Asset, budget int64, picks []int64, want impl.RenewOut) {
	t.Helper()
	own := roomyPlaces(picks)
	watchedAssets(t, "RenewOf, "+what, list, func(list []impl.Asset) {
		sameRenewal(t, "RenewOf, "+what, impl.RenewOf(list, budget, own), want)
	})
	if !keptPlaces(own, picks) {
		t.Errorf("RenewOf, %s: the picks were changed", what)
	}
}

func TestRenewOfByHand(t *testing.T) {
	sameRenewOf(t, "no picks", estate(), 10, nil, renewed(0, 0))
	sameRenewOf(t, "an empty list of picks", estate(), 0, []int64{}, renewed(0, 0))
	sameRenewOf(t, "no Assets", nil, 10, nil, renewed(0, 0))
	sameRenewOf(t, "no Assets, and most", []impl.Asset{}, 300, []int64{}, renewed(0, 0))
	sameRenewOf(t, "the first", estate(), 10, []int64{0}, renewed(3, 5, 0))
	sameRenewOf(t, "the last", estate(), 10, []int64{4}, renewed(7, 9, 4))
	sameRenewOf(t, "some", estate(), 10, []int64{0, 2, 3}, renewed(6, 9, 0, 2, 3))
	sameRenewOf(t, "all", estate(), 15, []int64{0, 1, 2, 3, 4}, renewed(15, 22, 0, 1, 2, 3, 4))
	sameRenewOf(t, "not the best", estate(), 15, []int64{3}, renewed(1, 0, 3))
	sameRenewOf(t, "all of the budget", estate(), 6, []int64{0, 2, 3}, renewed(6, 9, 0, 2, 3))
	sameRenewOf(t, "one too little", estate(), 5, []int64{0, 2, 3}, renewFault(impl.ErrShort))
	sameRenewOf(t, "no budget", estate(), 0, []int64{3}, renewFault(impl.ErrShort))
	sameRenewOf(t, "all, one too little", estate(), 14, []int64{0, 1, 2, 3, 4}, renewFault(impl.ErrShort))
	sameRenewOf(t, "one too dear behind", estate(), 6, []int64{0, 4}, renewFault(impl.ErrShort))
	sameRenewOf(t, "one too dear", estate(), 6, []int64{4}, renewFault(impl.ErrShort))
}

func TestRenewOfAtTheLimits(t *testing.T) {
	all := rowsFrom(0, impl.MaxAssets)
	sameRenewOf(t, "MaxAssets", manyAssets(impl.MaxAssets, 7, 1000), 300, all, renewed(280, 40000, all...))
	sameRenewOf(t, "MaxAssets, one too little", manyAssets(impl.MaxAssets, 7, 1000), 279, all, renewFault(impl.ErrShort))
	sameRenewOf(t, "MaxAssets but one", manyAssets(impl.MaxAssets, 7, 1000), 279, all[:39], renewed(273, 39000, all[:39]...))
	sameRenewOf(t, "MaxAssets, cheap", manyAssets(impl.MaxAssets, 1, 1000), 300, all, renewed(40, 40000, all...))
	sameRenewOf(t, "MaxAssets, just so", manyAssets(impl.MaxAssets, 1, 1000), 40, all, renewed(40, 40000, all...))
	sameRenewOf(t, "MaxAssets, dear", manyAssets(impl.MaxAssets, 300, 1000), 300, all, renewFault(impl.ErrShort))
	sameRenewOf(t, "one dear", assets(300, 1000), 300, []int64{0}, renewed(300, 1000, 0))
	sameRenewOf(t, "one dear, one too little", assets(300, 1000), 299, []int64{0}, renewFault(impl.ErrShort))
	sameRenewOf(t, "one of least", assets(1, 0), 1, []int64{0}, renewed(1, 0, 0))
}

// wrongPicks are none of an estate's, and no more than MaxList.
func wrongPicks() map[string][]int64 {
	wrong := map[string][]int64{
		"two alike":             {1, 1},
		"falling ones":          {2, 1},
		"the last one falls":    {0, 3, 2},
		"below and a good one":  {-1, 0},
		"a good one and behind": {4, 5},
		"all and one behind":    rowsFrom(0, 6),
		"all from below":        rowsFrom(-1, 5),
		"all twice":             {0, 1, 2, 3, 4, 0, 1, 2, 3, 4},
		"MaxList alike":         numbers(0, impl.MaxList),
		"MaxList rising":        rowsFrom(0, impl.MaxList),
	}
	for what, n := range beside(0, 4) {
		wrong["one that is "+what] = []int64{n}
	}
	return wrong
}

func TestRenewOfWrong(t *testing.T) {
	form, size := renewFault(impl.ErrForm), renewFault(impl.ErrSize)
	for what, list := range wrongAssets() {
		sameRenewOf(t, what, list, 10, nil, form)
		sameRenewOf(t, what+", no budget, which is short", list, 0, []int64{0}, form)
		sameRenewOf(t, what+", too many picks", list, 10, rowsFrom(0, impl.MaxList+1), size)
	}
	for what, budget := range beside(0, 300) {
		sameRenewOf(t, "a budget "+what, estate(), budget, []int64{0}, form)
		sameRenewOf(t, "a budget of no Assets "+what, nil, budget, nil, form)
		sameRenewOf(t, "too many picks, a budget "+what, estate(), budget, rowsFrom(0, impl.MaxList+1), size)
	}
	for what, picks := range wrongPicks() {
		sameRenewOf(t, "picks: "+what, estate(), 300, picks, form)
		sameRenewOf(t, "picks, and short: "+what, estate(), 0, picks, form)
		sameRenewOf(t, "picks of no Assets: "+what, nil, 300, picks, form)
	}
	sameRenewOf(t, "a pick of no Assets", nil, 300, []int64{0}, form)
	sameRenewOf(t, "dear ones twice", manyAssets(2, 300, 1), 300, []int64{0, 1, 1}, form)
	many := manyAssets(impl.MaxList+1, 1, 1)
	sameRenewOf(t, "too many Assets", many, 10, nil, size)
	sameRenewOf(t, "too many Assets, all wrong", manyAssets(impl.MaxList+1, 0, -1), -1, []int64{-1}, size)
	sameRenewOf(t, "too many of both", many, 10, rowsFrom(0, impl.MaxList+1), size)
	sameRenewOf(t, "too many picks of no Assets", nil, 10, numbers(0, impl.MaxList+1), size)
}

// TestRenewOfPairs asks for each pair of picks of three Assets.
func TestRenewOfPairs(t *testing.T) {
	list := assets(1, 10, 2, 200, 4, 700)
	for first := int64(-2); first <= 4; first++ {
		for second := int64(-2); second <= 4; second++ {
			want := renewFault(impl.ErrForm)
			if first >= 0 && first < second && second <= 2 {
				want = renewed(list[first].Cost+list[second].Cost, list[first].Worth+list[second].Worth, first, second)
			}
			sameRenewOf(t, "a pair", list, 6, []int64{first, second}, want)
		}
	}
}

// anyAssets are right; they differ in how dear they are, and in how often two are alike.
func anyAssets(random *rand.Rand, most int) []impl.Asset {
	cost, worth := 1+random.Int63n(300), random.Int63n(1001)
	switch random.Intn(3) {
	case 0:
		cost, worth = 1+random.Int63n(4), random.Int63n(4)
	case 1:
		cost = 1 + random.Int63n(30)
	}
	list := make([]impl.Asset, random.Intn(most+1))
	for i := range list {
		list[i] = impl.Asset{Cost: 1 + anyNumber(random, cost-1), Worth: anyNumber(random, worth)}
	}
	return list
}

// anyBudget is often about as much as some of the Assets cost.
func anyBudget(random *rand.Rand, list []impl.Asset) int64 {
	sum := int64(0)
	for _, a := range list {
		sum += a.Cost
	}
	if random.Intn(3) == 0 {
		return anyNumber(random, impl.MaxBudget)
	}
	return min(impl.MaxBudget, random.Int63n(sum+2))
}

func TestRenewOfAny(t *testing.T) {
	random := rand.New(rand.NewSource(180))
	seen := map[int64]int{}
	for range 3000 {
		list := anyAssets(random, impl.MaxAssets)
		budget, picks := anyBudget(random, list), anyPlaces(random, int64(len(list)), 1+random.Intn(20))
		want := renewed(0, 0, picks...)
		for _, place := range picks {
			want.Cost += list[place].Cost
			want.Worth += list[place].Worth
		}
		if want.Cost > budget {
			want = renewFault(impl.ErrShort)
		}
		seen[want.Code]++
		sameAssetsRight(t, "any", list, true)
		sameRenewOf(t, "any", list, budget, picks, want)
		if t.Failed() {
			t.Fatalf("of %+v by %d with %v", list, budget, picks)
		}
	}
	if seen[impl.OK] < 500 || seen[impl.ErrShort] < 500 {
		t.Errorf("%v: too few to tell", seen)
	}
}

func TestRenewOfIsNew(t *testing.T) {
	list, picks := estate(), []int64{0, 2, 3}
	out := impl.RenewOf(list, 10, picks)
	picks[0], list[0] = -9, impl.Asset{}
	sameRenewal(t, "RenewOf, behind spoilt picks", out, renewed(6, 9, 0, 2, 3))
	out.Picks[1] = -8
	samePlaces(t, "picks behind a spoilt answer", picks, []int64{-9, 2, 3})
}
