package tests

import (
	"math"
	"slices"
	"testing"

	"loop.example/g00068/impl"
)

// prices is a tariff of three blocks; of its last Up nothing is asked.
func prices() impl.Tariff {
	return impl.Tariff{
		Day:    10,
		Blocks: []impl.Block{{Up: 100, Price: 2}, {Up: 250, Price: 3}, {Up: 7, Price: 5}},
		Sewage: 50,
		Tax:    7,
	}
}

func changedTariff(change func(t *impl.Tariff)) impl.Tariff {
	t := prices()
	change(&t)
	return t
}

// blockRow is so many blocks, their Ups by this step, all of one price.
func blockRow(count int, step int64, price int64) []impl.Block {
	blocks := make([]impl.Block, count)
	for i := range blocks {
		blocks[i] = impl.Block{Up: step * int64(i+1), Price: price}
	}
	return blocks
}

// watchedTariff calls with blocks of its own, with room behind them, and tells if these were changed.
func watchedTariff(t *testing.T, what string, tariff impl.Tariff, call func(tariff impl.Tariff)) {
	t.Helper()
	behind := impl.Block{Up: -7, Price: -7}
	given := slices.Concat(tariff.Blocks, []impl.Block{behind})
	own := tariff
	if tariff.Blocks != nil {
		own.Blocks = given[:len(tariff.Blocks)]
	}
	call(own)
	if !slices.Equal(given[:len(tariff.Blocks)], tariff.Blocks) || given[len(tariff.Blocks)] != behind {
		t.Errorf("%s: the blocks were changed", what)
	}
}

// wrongTariffs are right but for what their names say.
func wrongTariffs() map[string]impl.Tariff {
	wrong := map[string]impl.Tariff{"none": {}}
	add := func(what string, change func(t *impl.Tariff)) {
		wrong[what] = changedTariff(change)
	}
	for what, n := range beside(0, 10000) {
		add("Day is "+what, func(t *impl.Tariff) { t.Day = n })
		for place := range prices().Blocks {
			add("Price "+decimal(int64(place))+" is "+what, func(t *impl.Tariff) { t.Blocks[place].Price = n })
		}
		add("the only Price is "+what, func(t *impl.Tariff) { t.Blocks = []impl.Block{{Up: 5, Price: n}} })
	}
	for what, n := range beside(0, 200) {
		add("Sewage is "+what, func(t *impl.Tariff) { t.Sewage = n })
	}
	for what, n := range beside(0, 100) {
		add("Tax is "+what, func(t *impl.Tariff) { t.Tax = n })
	}
	for what, n := range beside(1, 249) {
		add("the first Up is "+what, func(t *impl.Tariff) { t.Blocks[0].Up = n })
	}
	for what, n := range beside(101, impl.MaxFlow) {
		add("the second Up is "+what, func(t *impl.Tariff) { t.Blocks[1].Up = n })
	}
	add("no Blocks", func(t *impl.Tariff) { t.Blocks = nil })
	add("an empty list of Blocks", func(t *impl.Tariff) { t.Blocks = []impl.Block{} })
	for _, count := range []int{impl.MaxBlocks + 1, impl.MaxList, impl.MaxList + 1} {
		add(decimal(int64(count))+" Blocks", func(t *impl.Tariff) { t.Blocks = blockRow(count, 5, 1) })
	}
	add("Ups from 0 on", func(t *impl.Tariff) { t.Blocks = []impl.Block{{}, {}} })
	add("all but the last Ups fall", func(t *impl.Tariff) { slices.Reverse(t.Blocks[:2]) })
	add("an Up within is as the one ahead", func(t *impl.Tariff) { t.Blocks = blockRow(10, 5, 1); t.Blocks[8].Up = t.Blocks[7].Up })
	return wrong
}

// rightTariffs are at the limits, or of little.
func rightTariffs() map[string]impl.Tariff {
	right := map[string]impl.Tariff{
		"three blocks": prices(),
		"all at 0":     {Blocks: []impl.Block{{}}},
		"all at most":  {Day: 10000, Blocks: []impl.Block{{Up: impl.MaxFlow, Price: 10000}, {Price: 10000}}, Sewage: 200, Tax: 100},
		"most Blocks":  {Blocks: blockRow(impl.MaxBlocks, 1, 1)},
		"Ups at most":  {Blocks: []impl.Block{{Up: impl.MaxFlow - 1}, {Up: impl.MaxFlow}, {Up: impl.MaxFlow}}},
		"Ups from 1":   {Blocks: []impl.Block{{Up: 1}, {Up: 2}, {}}},
	}
	for _, up := range []int64{math.MinInt64, -1, 0, 1, 99, 100, 250, impl.MaxFlow, impl.MaxFlow + 1, math.MaxInt64} {
		right["the last Up is "+decimal(up)] = changedTariff(func(t *impl.Tariff) { t.Blocks[2].Up = up })
		right["the only Up is "+decimal(up)] = changedTariff(func(t *impl.Tariff) { t.Blocks = []impl.Block{{Up: up, Price: 4}} })
	}
	return right
}

func sameTariffRight(t *testing.T, what string, tariff impl.Tariff, want bool) {
	t.Helper()
	watchedTariff(t, "TariffRight, "+what, tariff, func(tariff impl.Tariff) {
		if got := impl.TariffRight(tariff); got != want {
			t.Errorf("TariffRight, %s: got %v of %+v", what, got, tariff)
		}
	})
}

func TestTariffRight(t *testing.T) {
	for what, tariff := range rightTariffs() {
		sameTariffRight(t, what, tariff, true)
	}
	for what, tariff := range wrongTariffs() {
		sameTariffRight(t, what, tariff, false)
	}
}

func TestTariffRightUps(t *testing.T) {
	for first := int64(-1); first <= 4; first++ {
		for second := int64(-1); second <= 4; second++ {
			for third := int64(-1); third <= 4; third++ {
				tariff := impl.Tariff{Blocks: []impl.Block{{Up: first}, {Up: second}, {Up: third}, {Up: 2}}}
				sameTariffRight(t, "Ups", tariff, first >= 1 && second > first && third > second)
			}
		}
	}
}
