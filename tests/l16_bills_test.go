package tests

import (
	"math"
	"math/rand"
	"slices"
	"testing"

	"loop.example/g00068/impl"
)

func billFault(code int64) impl.Bill {
	return impl.Bill{Code: code}
}

// billed is a bill by its parts, in the order of its fields.
func billed(days int64, lines []int64, sewage int64, net int64, tax int64, gross int64) impl.Bill {
	return impl.Bill{Days: days, Lines: lines, Sewage: sewage, Net: net, Tax: tax, Gross: gross}
}

func sameBill(t *testing.T, what string, got impl.Bill, want impl.Bill) {
	t.Helper()
	if got.Days != want.Days || !slices.Equal(got.Lines, want.Lines) || got.Sewage != want.Sewage ||
		got.Net != want.Net || got.Tax != want.Tax || got.Gross != want.Gross || got.Code != want.Code {
		t.Errorf("%s: got %+v, want %+v", what, got, want)
	}
}

func sameBillMade(t *testing.T, what string, tariff impl.Tariff, days int64, water int64, want impl.Bill) {
	t.Helper()
	what = "BillMake, " + what
	watchedTariff(t, what, tariff, func(tariff impl.Tariff) {
		sameBill(t, what, impl.BillMake(tariff, days, water), want)
	})
}

func sameBillRight(t *testing.T, what string, tariff impl.Tariff, water int64, b impl.Bill, want bool) {
	t.Helper()
	what = "BillRight, " + what
	given := slices.Concat(b.Lines, []int64{-7})
	own := b
	own.Lines = given[:len(b.Lines)]
	watchedTariff(t, what, tariff, func(tariff impl.Tariff) {
		if got := impl.BillRight(tariff, water, own); got != want {
			t.Errorf("%s: got %v of %+v, water %d, %+v", what, got, tariff, water, b)
		}
	})
	if !slices.Equal(given[:len(b.Lines)], b.Lines) || given[len(b.Lines)] != -7 {
		t.Errorf("%s: the lines were changed", what)
	}
}

func TestBillMakeByHand(t *testing.T) {
	for _, c := range []struct {
		days, water int64
		want        impl.Bill
	}{
		{0, 0, billed(0, []int64{0, 0, 0}, 0, 0, 0, 0)},
		{1, 0, billed(10, []int64{0, 0, 0}, 0, 10, 1, 11)},
		{30, 0, billed(300, []int64{0, 0, 0}, 0, 300, 21, 321)},
		{0, 1, billed(0, []int64{2, 0, 0}, 1, 3, 0, 3)},
		{0, 99, billed(0, []int64{198, 0, 0}, 99, 297, 21, 318)},
		{0, 100, billed(0, []int64{200, 0, 0}, 100, 300, 21, 321)},
		{0, 101, billed(0, []int64{200, 3, 0}, 101, 304, 21, 325)},
		{0, 250, billed(0, []int64{200, 450, 0}, 325, 975, 68, 1043)},
		{0, 251, billed(0, []int64{200, 450, 5}, 327, 982, 69, 1051)},
		{30, 400, billed(300, []int64{200, 450, 750}, 700, 2400, 168, 2568)},
		{1000, impl.MaxFlow, billed(10000, []int64{200, 450, 4998750}, 2499700, 7509100, 525637, 8034737)},
	} {
		sameBillMade(t, "three blocks", prices(), c.days, c.water, c.want)
	}
}

func TestBillMakeBlocks(t *testing.T) {
	one := impl.Tariff{Blocks: []impl.Block{{Up: 5, Price: 3}}}
	sameBillMade(t, "the only block goes on", one, 9, 100, billed(0, []int64{300}, 0, 300, 0, 300))
	ten := impl.Tariff{Blocks: blockRow(10, 1, 1)}
	sameBillMade(t, "no water", ten, 0, 0, billed(0, numbers(0, 10), 0, 0, 0, 0))
	sameBillMade(t, "a part of ten", ten, 0, 4, billed(0, []int64{1, 1, 1, 1, 0, 0, 0, 0, 0, 0}, 0, 4, 0, 4))
	sameBillMade(t, "all of ten", ten, 0, 10, billed(0, numbers(1, 10), 0, 10, 0, 10))
	sameBillMade(t, "more than ten", ten, 0, 12, billed(0, []int64{1, 1, 1, 1, 1, 1, 1, 1, 1, 3}, 0, 12, 0, 12))
	edge := impl.Tariff{Blocks: []impl.Block{{Up: impl.MaxFlow - 1, Price: 1}, {Up: impl.MaxFlow, Price: 7}, {Price: 9}}}
	sameBillMade(t, "up to MaxFlow", edge, 0, impl.MaxFlow, billed(0, []int64{impl.MaxFlow - 1, 7, 0}, 0, impl.MaxFlow+6, 0, impl.MaxFlow+6))
	for _, up := range []int64{math.MinInt64, -1, 0, 50, 250, 251, impl.MaxFlow, math.MaxInt64} {
		tariff := changedTariff(func(t *impl.Tariff) { t.Blocks[2].Up = up })
		sameBillMade(t, "the last Up is "+decimal(up), tariff, 30, 400, billed(300, []int64{200, 450, 750}, 700, 2400, 168, 2568))
	}
}

func TestBillMakeIsRounded(t *testing.T) {
	for _, c := range []struct{ water, sewage, tax, sewered, taxed int64 }{
		{199, 50, 0, 99, 0}, {200, 50, 0, 100, 0}, {1, 99, 0, 0, 0}, {1, 100, 0, 1, 0}, {1, 199, 0, 1, 0}, {1, 200, 0, 2, 0},
		{49, 0, 1, 0, 0}, {50, 0, 1, 0, 1}, {149, 0, 1, 0, 1}, {150, 0, 1, 0, 2},
		{1, 0, 49, 0, 0}, {1, 0, 50, 0, 1}, {1, 0, 99, 0, 1}, {1, 0, 100, 0, 1}, {3, 0, 50, 0, 2},
		{7, 10, 10, 0, 1}, {5, 99, 50, 4, 5},
	} {
		tariff := impl.Tariff{Blocks: []impl.Block{{Price: 1}}, Sewage: c.sewage, Tax: c.tax}
		net := c.water + c.sewered
		sameBillMade(t, "rounded", tariff, 0, c.water, billed(0, []int64{c.water}, c.sewered, net, c.taxed, net+c.taxed))
	}
	two := impl.Tariff{Blocks: []impl.Block{{Up: 1, Price: 1}, {Price: 1}}, Sewage: 50}
	sameBillMade(t, "sewage of all lines at once", two, 0, 2, billed(0, []int64{1, 1}, 1, 3, 0, 3))
	daily := impl.Tariff{Day: 50, Blocks: []impl.Block{{}}, Sewage: 200, Tax: 1}
	sameBillMade(t, "sewage not of days, tax of them", daily, 1, 5, billed(50, []int64{0}, 0, 50, 1, 51))
}

func TestBillMakeOfTheMost(t *testing.T) {
	tariff := impl.Tariff{Day: 10000, Blocks: []impl.Block{{Up: impl.MaxFlow, Price: 10000}, {Price: 10000}}, Sewage: 200, Tax: 100}
	sameBillMade(t, "all at most", tariff, 1000, impl.MaxFlow, billed(10000000, []int64{10000000000, 0}, 20000000000, 30010000000, 30010000000, 60020000000))
	tariff.Blocks = tariff.Blocks[1:]
	sameBillMade(t, "all at most, one block", tariff, 1000, impl.MaxFlow, billed(10000000, []int64{10000000000}, 20000000000, 30010000000, 30010000000, 60020000000))
}

func TestBillMakeForm(t *testing.T) {
	for what, tariff := range wrongTariffs() {
		sameBillMade(t, what, tariff, 30, 150, billFault(impl.ErrForm))
		sameBillMade(t, what+", no days, no water", tariff, 0, 0, billFault(impl.ErrForm))
		sameBillMade(t, what+", days and water wrong", tariff, -1, -1, billFault(impl.ErrForm))
	}
	for what, n := range beside(0, 1000) {
		sameBillMade(t, "days are "+what, prices(), n, 150, billFault(impl.ErrForm))
		sameBillMade(t, "days are "+what+", no water", prices(), n, 0, billFault(impl.ErrForm))
		free := changedTariff(func(t *impl.Tariff) { t.Day = 0 })
		sameBillMade(t, "days that cost nothing are "+what, free, n, 150, billFault(impl.ErrForm))
	}
	for what, n := range beside(0, impl.MaxFlow) {
		sameBillMade(t, "water is "+what, prices(), 30, n, billFault(impl.ErrForm))
		sameBillMade(t, "water is "+what+", no days", prices(), 0, n, billFault(impl.ErrForm))
	}
}

// plainBill says chapter 17 by what is below each Up, in numbers that know no limit.
func plainBill(t impl.Tariff, days int64, water int64) impl.Bill {
	b := impl.Bill{Days: share(days, t.Day, 1)}
	below, lines := int64(0), int64(0)
	for place, block := range t.Blocks {
		upTo := water
		if place+1 < len(t.Blocks) && block.Up < water {
			upTo = block.Up
		}
		b.Lines = append(b.Lines, share(block.Price, upTo-below, 1))
		lines += b.Lines[place]
		below = upTo
	}
	b.Sewage = share(lines, t.Sewage, 100)
	b.Net = b.Days + lines + b.Sewage
	b.Tax = share(2*b.Net*t.Tax+100, 1, 200)
	b.Gross = b.Net + b.Tax
	return b
}

// anyTariff has few or many blocks, near one another or far apart.
func anyTariff(random *rand.Rand) impl.Tariff {
	great := []int64{20, 1000, impl.MaxFlow}[random.Intn(3)]
	price := []int64{5, 300, 10000}[random.Intn(3)]
	ups := map[int64]bool{}
	for range random.Intn(impl.MaxBlocks) {
		ups[1+random.Int63n(great)] = true
	}
	t := impl.Tariff{Day: anyNumber(random, price), Sewage: anyNumber(random, 200), Tax: anyNumber(random, 100)}
	for up := range ups {
		t.Blocks = append(t.Blocks, impl.Block{Up: up})
	}
	slices.SortFunc(t.Blocks, func(a impl.Block, b impl.Block) int { return int(a.Up - b.Up) })
	t.Blocks = append(t.Blocks, impl.Block{Up: random.Int63n(2*great) - great})
	for place := range t.Blocks {
		t.Blocks[place].Price = anyNumber(random, price)
	}
	return t
}

// anyBilledWater is often at an Up of the tariff, or beside it.
func anyBilledWater(random *rand.Rand, t impl.Tariff) int64 {
	up := t.Blocks[random.Intn(len(t.Blocks))].Up
	switch random.Intn(4) {
	case 0:
		return anyNumber(random, impl.MaxFlow)
	case 1:
		return random.Int63n(100)
	}
	return min(max(0, up-1+random.Int63n(3)), impl.MaxFlow)
}

func TestBillMakeOfAny(t *testing.T) {
	random := rand.New(rand.NewSource(161))
	seen := map[string]int{}
	for range 20000 {
		tariff := anyTariff(random)
		days, water := anyNumber(random, 1000), anyBilledWater(random, tariff)
		want := plainBill(tariff, days, water)
		sameBillMade(t, "any", tariff, days, water, want)
		sameBillRight(t, "any", tariff, water, want, true)
		if t.Failed() {
			t.Fatalf("of %+v, %d days, water %d", tariff, days, water)
		}
		seen["several lines"] += min(1, len(slices.DeleteFunc(want.Lines, func(n int64) bool { return n == 0 }))/2)
		seen["sewage"] += int(min(1, want.Sewage))
		seen["tax"] += int(min(1, want.Tax))
	}
	if seen["several lines"] < 3000 || seen["sewage"] < 3000 || seen["tax"] < 3000 {
		t.Errorf("%v: too few to tell", seen)
	}
}

func TestBillMakeIsNew(t *testing.T) {
	tariff := prices()
	want := impl.BillMake(tariff, 30, 400)
	out := impl.BillMake(tariff, 30, 400)
	for i := range tariff.Blocks {
		tariff.Blocks[i] = impl.Block{Up: -9, Price: -9}
	}
	sameBill(t, "behind a spoilt tariff", out, want)
	for i := range out.Lines {
		out.Lines[i] = -9
	}
	_ = append(out.Lines, -9)
	sameBillMade(t, "behind a spoilt answer", prices(), 30, 400, want)
}

// wrongBills are one of prices of 30 days and water 400, but for what their names say.
func wrongBills() map[string]impl.Bill {
	wrong := map[string]impl.Bill{"none": {}}
	add := func(what string, change func(b *impl.Bill)) {
		b := plainBill(prices(), 30, 400)
		change(&b)
		wrong[what] = b
	}
	for _, off := range []int64{-1, 1, -10, 10, 1 << 32, math.MinInt64} {
		by := " off by " + decimal(off)
		add("Days"+by, func(b *impl.Bill) { b.Days += off })
		for place := range prices().Blocks {
			add("line "+decimal(int64(place))+by, func(b *impl.Bill) { b.Lines[place] += off })
		}
		add("Sewage"+by, func(b *impl.Bill) { b.Sewage += off })
		add("Net"+by, func(b *impl.Bill) { b.Net += off })
		add("Tax"+by, func(b *impl.Bill) { b.Tax += off })
		add("Gross"+by, func(b *impl.Bill) { b.Gross += off })
		add("all sums"+by, func(b *impl.Bill) { b.Days += off; b.Net += off; b.Gross += off })
	}
	for _, code := range []int64{-1, impl.ErrForm, impl.ErrSize, impl.ErrState, math.MaxInt64} {
		add("Code is "+decimal(code), func(b *impl.Bill) { b.Code = code })
	}
	add("lines that swap money", func(b *impl.Bill) { b.Lines[0]++; b.Lines[1]-- })
	add("lines in another order", func(b *impl.Bill) { slices.Reverse(b.Lines) })
	add("no lines", func(b *impl.Bill) { b.Lines = nil })
	add("a line too few", func(b *impl.Bill) { b.Lines = b.Lines[:2] })
	add("a line too many", func(b *impl.Bill) { b.Lines = append(b.Lines, 0) })
	add("far too many lines", func(b *impl.Bill) { b.Lines = slices.Concat(b.Lines, numbers(0, impl.MaxList)) })
	add("lines as one", func(b *impl.Bill) { b.Lines = []int64{1400} })
	return wrong
}

func TestBillRightOfWrong(t *testing.T) {
	sameBillRight(t, "as made", prices(), 400, plainBill(prices(), 30, 400), true)
	for what, b := range wrongBills() {
		sameBillRight(t, what, prices(), 400, b, false)
	}
	for _, water := range []int64{0, 399, 401, -1, impl.MaxFlow, impl.MaxFlow + 1, math.MinInt64, math.MaxInt64} {
		sameBillRight(t, "of other water", prices(), water, plainBill(prices(), 30, 400), false)
	}
}

func TestBillRightDays(t *testing.T) {
	for _, days := range []int64{0, 1, 2, 999, 1000} {
		sameBillRight(t, "days", prices(), 400, plainBill(prices(), days, 400), true)
	}
	for _, days := range []int64{-1, -2, -1000, 1001, 2000, 1 << 32} {
		sameBillRight(t, "no such days", prices(), 400, plainBill(prices(), days, 400), false)
	}
	for days := int64(-25); days <= 10025; days++ {
		b := billed(days, []int64{0, 0, 0}, 0, days, 0, days)
		tariff := changedTariff(func(t *impl.Tariff) { t.Tax = 0 })
		want := days >= 0 && days <= 10000 && days%10 == 0
		if got := impl.BillRight(tariff, 0, b); got != want {
			t.Fatalf("BillRight of Days %d: got %v", days, got)
		}
	}
	free := changedTariff(func(t *impl.Tariff) { t.Day = 0 })
	sameBillRight(t, "days that cost nothing", free, 400, plainBill(free, 0, 400), true)
	sameBillRight(t, "so many of them", free, 400, impl.BillMake(free, 1000, 400), true)
	for _, days := range []int64{-1, 1, 10, math.MinInt64, math.MaxInt64} {
		b := plainBill(free, 0, 400)
		b.Days = days
		sameBillRight(t, "days that should cost nothing", free, 400, b, false)
	}
}

// TestBillRightOfRefused: what is told beside a fault is no bill.
func TestBillRightOfRefused(t *testing.T) {
	odd := []int64{0, -1, 300, math.MinInt64, math.MaxInt64}
	for what, tariff := range wrongTariffs() {
		sameBillRight(t, what, tariff, 400, plainBill(prices(), 30, 400), false)
		sameBillRight(t, what+", refused", tariff, 400, impl.BillMake(tariff, 30, 400), false)
		sameBillRight(t, what+", zero", tariff, 0, impl.Bill{}, false)
		for _, days := range odd {
			sameBillRight(t, what+", odd days", tariff, 0, impl.Bill{Days: days, Code: impl.ErrForm}, false)
		}
	}
	for what, water := range beside(0, impl.MaxFlow) {
		sameBillRight(t, "water is "+what, prices(), water, impl.BillMake(prices(), 30, water), false)
		sameBillRight(t, "water is "+what+", by itself", prices(), water, billFault(impl.ErrForm), false)
	}
	sameBillRight(t, "a refused one", prices(), 400, impl.BillMake(prices(), -1, 400), false)
	minus := changedTariff(func(t *impl.Tariff) { t.Day = -1 })
	sameBillRight(t, "the least number by minus one", minus, 400, impl.Bill{Days: math.MinInt64}, false)
}
