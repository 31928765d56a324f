package tests

import (
	"math"
	"math/rand"
	"slices"
	"testing"

	"loop.example/g00068/impl"
)

func sameRenewBest(t *testing.T, what string, list []impl.Asset, budget int64, want impl.RenewOut) {
	t.Helper()
	watchedAssets(t, "RenewBest, "+what, list, func(list []impl.Asset) {
		sameRenewal(t, "RenewBest, "+what, impl.RenewBest(list, budget), want)
	})
}

// sameWorths asks for a table, and that it is the right one.
func sameWorths(t *testing.T, what string, list []impl.Asset, budget int64, want [][]int64) {
	t.Helper()
	watchedAssets(t, "RenewTable, "+what, list, func(list []impl.Asset) {
		if got := impl.RenewTable(list, budget); !sameTables(got, want) {
			t.Errorf("RenewTable, %s: got %v, want %v", what, got, want)
		}
	})
	sameWorthsRight(t, what, list, budget, want, true)
}

func sameWorthsRight(t *testing.T, what string, list []impl.Asset, budget int64, table [][]int64, want bool) {
	t.Helper()
	given := copiedTable(table)
	for i, row := range given {
		given[i] = roomyPlaces(row)
	}
	watchedAssets(t, "RenewTableRight, "+what, list, func(list []impl.Asset) {
		if got := impl.RenewTableRight(list, budget, given); got != want {
			t.Errorf("RenewTableRight, %s: got %v, want %v", what, got, want)
		}
	})
	for i, row := range given {
		if !keptPlaces(row, table[i]) {
			t.Errorf("RenewTableRight, %s: row %d was changed", what, i)
		}
	}
}

// estateTable is the one of an estate by 8, by hand, from the last row up.
func estateTable() [][]int64 {
	return [][]int64{
		{0, 0, 4, 5, 8, 9, 9, 13, 13},
		{0, 0, 4, 4, 8, 8, 8, 9, 9},
		{0, 0, 4, 4, 4, 4, 4, 9, 9},
		{0, 0, 0, 0, 0, 0, 0, 9, 9},
		{0, 0, 0, 0, 0, 0, 0, 9, 9},
		{0, 0, 0, 0, 0, 0, 0, 0, 0},
	}
}

func TestRenewBestByHand(t *testing.T) {
	for budget, want := range []impl.RenewOut{
		renewed(0, 0),
		renewed(1, 0, 3),
		renewed(2, 4, 1),
		renewed(3, 5, 0),
		renewed(4, 8, 1, 2),
		renewed(5, 9, 0, 1),
		renewed(6, 9, 0, 1, 3),
		renewed(7, 13, 0, 1, 2),
		renewed(8, 13, 0, 1, 2, 3),
		renewed(8, 13, 0, 1, 2, 3),
		renewed(10, 14, 0, 4),
	} {
		sameRenewBest(t, "an estate by "+decimal(int64(budget)), estate(), int64(budget), want)
	}
	sameRenewBest(t, "an estate by all", estate(), 15, renewed(15, 22, 0, 1, 2, 3, 4))
	sameRenewBest(t, "an estate by one less", estate(), 14, renewed(14, 22, 0, 1, 2, 4))
	sameRenewBest(t, "an estate by most", estate(), 300, renewed(15, 22, 0, 1, 2, 3, 4))
}

// TestRenewBestOfSeveral asks for picks that are worth as much as others.
func TestRenewBestOfSeveral(t *testing.T) {
	sameRenewBest(t, "the first of two", assets(2, 4, 2, 4), 2, renewed(2, 4, 0))
	sameRenewBest(t, "the first, though dearer", assets(3, 4, 2, 4), 3, renewed(3, 4, 0))
	sameRenewBest(t, "the first, though more of others", assets(4, 4, 1, 1, 1, 1, 2, 2), 4, renewed(4, 4, 0))
	sameRenewBest(t, "the first with the last", assets(1, 1, 2, 2, 2, 2, 3, 3), 4, renewed(4, 4, 0, 3))
	sameRenewBest(t, "one of no worth", assets(1, 0), 1, renewed(1, 0, 0))
	sameRenewBest(t, "those of no worth that fit", assets(2, 0, 2, 0, 2, 0), 5, renewed(4, 0, 0, 1))
	sameRenewBest(t, "those of no worth, as they come", assets(5, 0, 1, 0, 1, 0), 5, renewed(5, 0, 0))
	sameRenewBest(t, "none of no worth in the way", assets(5, 0, 1, 0, 1, 2), 5, renewed(2, 2, 1, 2))
	sameRenewBest(t, "none of no worth that is too dear", assets(6, 0, 1, 0), 5, renewed(1, 0, 1))
	sameRenewBest(t, "a later one that differs", assets(2, 3, 3, 2, 1, 1, 2, 1), 5, renewed(5, 5, 0, 1))
	sameRenewBest(t, "a later one, not by its cost", assets(2, 3, 2, 1, 1, 1, 2, 1), 4, renewed(4, 4, 0, 1))
}

func TestRenewBestAtTheLimits(t *testing.T) {
	all := rowsFrom(0, impl.MaxAssets)
	sameRenewBest(t, "no Assets", nil, 0, renewed(0, 0))
	sameRenewBest(t, "no Assets, empty, by most", []impl.Asset{}, 300, renewed(0, 0))
	sameRenewBest(t, "no budget", estate(), 0, renewed(0, 0))
	sameRenewBest(t, "MaxAssets", manyAssets(impl.MaxAssets, 7, 1000), 300, renewed(280, 40000, all...))
	sameRenewBest(t, "MaxAssets, one too little", manyAssets(impl.MaxAssets, 7, 1000), 279, renewed(273, 39000, all[:39]...))
	sameRenewBest(t, "MaxAssets, dear", manyAssets(impl.MaxAssets, 300, 1000), 300, renewed(300, 1000, 0))
	sameRenewBest(t, "MaxAssets, dear, one too little", manyAssets(impl.MaxAssets, 300, 1000), 299, renewed(0, 0))
	sameRenewBest(t, "MaxAssets of no worth", manyAssets(impl.MaxAssets, 8, 0), 300, renewed(296, 0, all[:37]...))
	last := append(manyAssets(impl.MaxAssets-1, 7, 999), assets(300, 1000)...)
	sameRenewBest(t, "the last one is no more", last, 300, renewed(273, 38961, all[:39]...))
	last = append(manyAssets(impl.MaxAssets-1, 8, 0), assets(300, 1000)...)
	sameRenewBest(t, "the last one alone", last, 300, renewed(300, 1000, 39))
}

func TestWorthsByHand(t *testing.T) {
	sameWorths(t, "an estate", estate(), 8, estateTable())
	for place := range estateTable() {
		sameWorths(t, "an estate from a place on", estate()[place:], 8, estateTable()[place:])
	}
	for budget := range int64(8) {
		table := estateTable()
		for i := range table {
			table[i] = table[i][:budget+1]
		}
		sameWorths(t, "an estate by less", estate(), budget, table)
	}
	sameWorths(t, "no Assets", nil, 3, [][]int64{{0, 0, 0, 0}})
	sameWorths(t, "no Assets, no budget", []impl.Asset{}, 0, [][]int64{{0}})
	sameWorths(t, "no Assets by most", nil, 300, [][]int64{numbers(0, 301)})
	sameWorths(t, "no budget", estate(), 0, [][]int64{{0}, {0}, {0}, {0}, {0}, {0}})
	sameWorths(t, "one that fits", assets(2, 7), 3, [][]int64{{0, 0, 7, 7}, {0, 0, 0, 0}})
	sameWorths(t, "one that does not", assets(4, 7), 3, [][]int64{{0, 0, 0, 0}, {0, 0, 0, 0}})
	sameWorths(t, "one at its most", assets(300, 1000), 300, [][]int64{append(numbers(0, 300), 1000), numbers(0, 301)})
}

func TestWorthsAtTheLimits(t *testing.T) {
	var table [][]int64
	for place := range int64(impl.MaxAssets + 1) {
		var row []int64
		for left := range int64(impl.MaxBudget + 1) {
			row = append(row, 1000*min(left/7, impl.MaxAssets-place))
		}
		table = append(table, row)
	}
	sameWorths(t, "MaxAssets by MaxBudget", manyAssets(impl.MaxAssets, 7, 1000), impl.MaxBudget, table)
	table[0][300]--
	sameWorthsRight(t, "MaxAssets, its greatest one less", manyAssets(impl.MaxAssets, 7, 1000), impl.MaxBudget, table, false)
}

func noWorths(t *testing.T, what string, list []impl.Asset, budget int64) {
	t.Helper()
	watchedAssets(t, "RenewTable, "+what, list, func(list []impl.Asset) {
		if got := impl.RenewTable(list, budget); len(got) > 0 {
			t.Errorf("RenewTable, %s: got %v, want none", what, got)
		}
	})
	sameWorthsRight(t, what, list, budget, estateTable(), false)
	sameWorthsRight(t, what+", no table", list, budget, nil, false)
	sameWorthsRight(t, what+", an empty table", list, budget, [][]int64{}, false)
	sameWorthsRight(t, what+", one empty row", list, budget, [][]int64{{}}, false)
	rows := make([][]int64, len(list)+1)
	for i := range rows {
		rows[i] = numbers(0, 9)
	}
	sameWorthsRight(t, what+", noughts", list, budget, rows, false)
}

func TestRenewBestOfWrong(t *testing.T) {
	for what, list := range wrongAssets() {
		for _, budget := range []int64{0, 8, 300, -1, 301} {
			sameRenewBest(t, what, list, budget, renewFault(impl.ErrForm))
		}
		noWorths(t, what, list, 8)
	}
	for what, budget := range beside(0, 300) {
		sameRenewBest(t, "a budget "+what, estate(), budget, renewFault(impl.ErrForm))
		sameRenewBest(t, "a budget of no Assets "+what, nil, budget, renewFault(impl.ErrForm))
		noWorths(t, "a budget "+what, estate(), budget)
		noWorths(t, "a budget of no Assets "+what, nil, budget)
	}
	many := manyAssets(impl.MaxList+1, 1, 1)
	sameRenewBest(t, "too many", many, 8, renewFault(impl.ErrSize))
	sameRenewBest(t, "too many, no budget", many, -1, renewFault(impl.ErrSize))
	sameRenewBest(t, "too many, all wrong", manyAssets(impl.MaxList+1, 0, -1), 301, renewFault(impl.ErrSize))
	noWorths(t, "too many", many, 8)
}

// wrongWorths are estateTable but for what their names say.
func wrongWorths() map[string][][]int64 {
	wrong := map[string][][]int64{"none": nil, "an empty one": {}, "MaxList and one rows": make([][]int64, impl.MaxList+1)}
	add := func(what string, change func(table [][]int64) [][]int64) {
		wrong[what] = change(estateTable())
	}
	add("the last row alone", func(table [][]int64) [][]int64 { return table[5:] })
	add("without its first row", func(table [][]int64) [][]int64 { return table[1:] })
	add("without its last row", func(table [][]int64) [][]int64 { return table[:5] })
	add("the last row twice", func(table [][]int64) [][]int64 { return append(table, table[5]) })
	add("the first row twice", func(table [][]int64) [][]int64 { return slices.Insert(table, 0, table[0]) })
	add("rows the other way round", func(table [][]int64) [][]int64 { slices.Reverse(table); return table })
	add("MaxList and one of its last row", func(table [][]int64) [][]int64 {
		return append(table, slices.Repeat(table[5:], impl.MaxList-5)...)
	})
	add("empty rows", func(table [][]int64) [][]int64 { return make([][]int64, 6) })
	for i := range 6 {
		at := " of row " + decimal(int64(i))
		add("the last number gone"+at, func(table [][]int64) [][]int64 { table[i] = table[i][:8]; return table })
		add("the first number gone"+at, func(table [][]int64) [][]int64 { table[i] = table[i][1:]; return table })
		add("a number more"+at, func(table [][]int64) [][]int64 { table[i] = append(table[i], table[i][8]); return table })
		add("all numbers"+at, func(table [][]int64) [][]int64 { table[i] = nil; return table })
	}
	add("one more behind the end", func(table [][]int64) [][]int64 {
		for _, row := range table {
			for j := range row {
				row[j]++
			}
		}
		return table
	})
	return wrong
}

func TestWorthsRightOfWrongTables(t *testing.T) {
	for what, table := range wrongWorths() {
		sameWorthsRight(t, what, estate(), 8, table, false)
	}
	for i, row := range estateTable() {
		for j, n := range row {
			for _, other := range []int64{n - 1, n + 1, -1, n + 1000, math.MinInt64, math.MaxInt64} {
				table := estateTable()
				table[i][j] = other
				sameWorthsRight(t, "number "+decimal(int64(j))+" of row "+decimal(int64(i)), estate(), 8, table, false)
			}
		}
	}
}

func TestWorthsRightOfOthers(t *testing.T) {
	sameWorthsRight(t, "another budget", estate(), 9, estateTable(), false)
	sameWorthsRight(t, "a lesser budget", estate(), 7, estateTable(), false)
	sameWorthsRight(t, "an Asset less", estate()[:4], 8, estateTable(), false)
	sameWorthsRight(t, "no Assets", nil, 8, estateTable(), false)
	for place := range estate() {
		dearer := changedAssets(estate(), func(list []impl.Asset) { list[place].Cost += 3 })
		// What is worth nothing may cost whatever it will.
		sameWorthsRight(t, "a dearer one", dearer, 8, estateTable(), place == 3)
		better := changedAssets(estate(), func(list []impl.Asset) { list[place].Worth++ })
		sameWorthsRight(t, "a better one", better, 8, estateTable(), false)
	}
}

func TestWorthsAreNew(t *testing.T) {
	list := estate()
	table := impl.RenewTable(list, 8)
	for i, row := range table {
		for j := range row {
			row[j] = -9
		}
		// What is put behind the end of one row may not come into another.
		_ = append(row, -8, -8)
		if i+1 < len(table) && !slices.Equal(table[i+1], estateTable()[i+1]) {
			t.Errorf("row %d lies in row %d", i+1, i)
		}
	}
	sameWorths(t, "behind a spoilt table", list, 8, estateTable())
	best := impl.RenewBest(list, 8)
	best.Picks[0] = -9
	sameRenewBest(t, "behind a spoilt answer", list, 8, renewed(8, 13, 0, 1, 2, 3))
}

// plainPicks goes through all picks within the budget: where they differ first, those that have it come first.
func plainPicks(list []impl.Asset, left int64, place int, ahead []int64, tell func(picks []int64)) {
	if place == len(list) {
		tell(ahead)
		return
	}
	if list[place].Cost <= left {
		plainPicks(list, left-list[place].Cost, place+1, append(slices.Clone(ahead), int64(place)), tell)
	}
	plainPicks(list, left, place+1, ahead, tell)
}

func plainRenewBest(list []impl.Asset, budget int64) impl.RenewOut {
	best := renewed(0, -1)
	plainPicks(list, budget, 0, nil, func(picks []int64) {
		out := renewed(0, 0, picks...)
		for _, place := range picks {
			out.Cost += list[place].Cost
			out.Worth += list[place].Worth
		}
		if out.Worth > best.Worth {
			best = out
		}
	})
	return best
}

func TestRenewBestOfAny(t *testing.T) {
	random := rand.New(rand.NewSource(181))
	for range 1500 {
		list := anyAssets(random, 10)
		budget := anyBudget(random, list)
		sameRenewBest(t, "any", list, budget, plainRenewBest(list, budget))
		if t.Failed() {
			t.Fatalf("of %+v by %d", list, budget)
		}
	}
}

// TestWorthsOfAny asks of each place and budget for the best of the rest of the list.
func TestWorthsOfAny(t *testing.T) {
	random := rand.New(rand.NewSource(182))
	for range 200 {
		list := anyAssets(random, 6)
		budget := anyBudget(random, list)
		var table [][]int64
		for place := range len(list) + 1 {
			var row []int64
			for left := range budget + 1 {
				row = append(row, plainRenewBest(list[place:], left).Worth)
			}
			table = append(table, row)
		}
		sameWorths(t, "any", list, budget, table)
		if t.Failed() {
			t.Fatalf("of %+v by %d", list, budget)
		}
	}
}
