package tests

import (
	"math"
	"math/rand"
	"slices"
	"sync"
	"testing"

	"loop.example/g00068/impl"
)

func sameBest(t *testing.T, what string, d impl.Day, want impl.DayOut) {
	t.Helper()
	watchedDay(t, "DayBest, "+what, d, func(d impl.Day) {
		sameDayOut(t, "DayBest, "+what, impl.DayBest(d), want)
	})
}

func sameTables(a [][]int64, b [][]int64) bool {
	return slices.EqualFunc(a, b, func(a []int64, b []int64) bool { return slices.Equal(a, b) })
}

func copiedTable(table [][]int64) [][]int64 {
	var copied [][]int64
	for _, row := range table {
		copied = append(copied, slices.Clone(row))
	}
	return copied
}

// sameTable asks for a table, and that it is the right one.
func sameTable(t *testing.T, what string, d impl.Day, want [][]int64) {
	t.Helper()
	watchedDay(t, "DayTable, "+what, d, func(d impl.Day) {
		if got := impl.DayTable(d); !sameTables(got, want) {
			t.Errorf("DayTable, %s: got %v, want %v", what, got, want)
		}
	})
	sameTableRight(t, what, d, want, true)
}

func sameTableRight(t *testing.T, what string, d impl.Day, table [][]int64, want bool) {
	t.Helper()
	given := copiedTable(table)
	for i, row := range given {
		given[i] = roomyPlaces(row)
	}
	watchedDay(t, "TableRight, "+what, d, func(d impl.Day) {
		if got := impl.TableRight(d, given); got != want {
			t.Errorf("TableRight, %s: got %v, want %v", what, got, want)
		}
	})
	for i, row := range given {
		if !keptPlaces(row, table[i]) {
			t.Errorf("TableRight, %s: row %d was changed", what, i)
		}
	}
}

// pumpTable is the one of pumpDay, by hand, from the last row up.
func pumpTable() [][]int64 {
	return [][]int64{
		{24, 26, 26, 14, 14, 14, 20, 8, 8, 8, 15},
		{20, 20, 20, 20, 8, 8, 8, 15, 15, 3, 3},
		{32, 32, 32, 32, 12, 12, 12, 12, 0, 0, 0},
		{56, 56, 21, 21, 21, 21, 0, 0, 0, 0, 0},
		numbers(0, 11),
	}
}

// stairs has one Mode, and so one way from each tank, if it leads on.
func stairs() impl.Day {
	return impl.Day{Modes: []impl.Mode{mode(3, 1)}, Wants: []int64{1, 10}, Prices: []int64{5, 7}, Tank: 5, High: 10}
}

func TestTableByHand(t *testing.T) {
	sameTable(t, "a day", pumpDay(), pumpTable())
	sameTable(t, "a day from its end", changedDay(pumpDay(), func(d *impl.Day) { d.Wants = d.Wants[1:]; d.Prices = d.Prices[1:] }), pumpTable()[1:])
	sameTable(t, "dead ends", stairs(), [][]int64{
		{-1, -1, -1, -1, -1, 12, 12, 12, 12, -1, -1},
		{-1, -1, -1, -1, -1, -1, -1, 7, 7, 7, 7},
		numbers(0, 11),
	})
	two := impl.Day{Modes: []impl.Mode{{}, mode(5, 2)}, Wants: []int64{3, 3}, Prices: []int64{1, 5}, Tank: 4, High: 10}
	sameTable(t, "two slots", two, [][]int64{
		{12, 2, 2, 2, 2, 2, 0, 0, 0, 0, 0},
		{10, 10, 10, 0, 0, 0, 0, 0, 0, 0, 0},
		numbers(0, 11),
	})
	still := impl.Day{Modes: []impl.Mode{mode(4, 6), mode(0, 1)}, Wants: []int64{4, 0, 4}, Prices: []int64{1, 2, 3}, Tank: 9, Low: 9, High: 9}
	sameTable(t, "one tank", still, [][]int64{{6 + 2 + 18}, {2 + 18}, {18}, {0}})
	sameTable(t, "one tank, nothing leads on", changedDay(still, func(d *impl.Day) { d.Wants[1] = 3 }), [][]int64{{-1}, {-1}, {18}, {0}})
	sameTable(t, "an empty tank", impl.Day{Modes: []impl.Mode{{}}, Wants: []int64{0}, Prices: []int64{9}}, [][]int64{{0}, {0}})
	sameTable(t, "too much wanted", longDay(1, 301, 0, mode(0, 0)), [][]int64{numbers(-1, 301), numbers(0, 301)})
}

// TestTableOfFewTanks asks for rows of each length from one on, since they are filled in pieces.
func TestTableOfFewTanks(t *testing.T) {
	for high := range int64(40) {
		d := impl.Day{Modes: []impl.Mode{mode(1, 2), mode(0, 1)}, Wants: []int64{1}, Prices: []int64{3}, Low: 0, High: high}
		first := numbers(3, int(high)+1)
		first[0] = 6
		sameTable(t, "High of "+decimal(high), d, [][]int64{first, numbers(0, int(high)+1)})
		d.Low, d.Tank = high, high
		sameTable(t, "a tank of "+decimal(high), d, [][]int64{{6}, {0}})
	}
}

func TestTableAtTheLimits(t *testing.T) {
	d := longDay(impl.MaxSlots, impl.MaxTank, 1000, mode(impl.MaxTank, 1000))
	var table [][]int64
	for slot := range int64(impl.MaxSlots + 1) {
		table = append(table, numbers((impl.MaxSlots-slot)*1000*1000, impl.MaxTank+1))
	}
	sameTable(t, "all at its most", d, table)
	sameBest(t, "all at its most", d, planned(48*1000*1000, 0, numbers(0, impl.MaxSlots)...))
	last := changedDay(d, func(d *impl.Day) { d.Modes[0].Lift, d.Wants[impl.MaxSlots-1] = 0, 0 })
	for slot := range impl.MaxSlots - 1 {
		last.Wants[slot] = 0
	}
	last.Tank = impl.MaxTank
	sameTable(t, "a tank that stays", last, table)
	sameBest(t, "a tank that stays", last, planned(48*1000*1000, impl.MaxTank, numbers(0, impl.MaxSlots)...))
}

func TestBestByHand(t *testing.T) {
	sameBest(t, "a day", pumpDay(), planned(14, 3, 1, 2, 0, 0))
	ends := map[int64]impl.DayOut{
		2:  planned(24, 4, 2, 2, 0, 0),
		3:  planned(26, 4, 1, 2, 1, 0),
		5:  planned(14, 2, 1, 2, 0, 0),
		8:  planned(20, 5, 0, 2, 1, 0),
		9:  planned(8, 2, 0, 2, 0, 0),
		12: planned(15, 4, 0, 1, 1, 0),
	}
	for tank, want := range ends {
		sameBest(t, "a tank of "+decimal(tank), changedDay(pumpDay(), func(d *impl.Day) { d.Tank = tank }), want)
	}
	sameBest(t, "one way", stairs(), planned(12, 0, 0, 0))
	sameBest(t, "one slot", longDay(1, 7, 3, mode(0, 5), mode(7, 1), mode(9, 0)), planned(0, 2, 2))
	sameBest(t, "nothing wanted", longDay(3, 0, 9, mode(2, 1), mode(0, 0)), planned(0, 0, 1, 1, 1))
}

func TestBestIsTheFirst(t *testing.T) {
	free := longDay(3, 1, 0, mode(0, 9), mode(1, 9), mode(2, 1))
	sameBest(t, "nothing is paid", free, planned(0, 0, 1, 1, 1))
	sameBest(t, "nothing is paid, and water is there", changedDay(free, func(d *impl.Day) { d.Tank = 2 }), planned(0, 0, 0, 0, 1))
	alike := longDay(2, 5, 4, mode(0, 0), mode(5, 3), mode(5, 3))
	sameBest(t, "Modes alike", alike, planned(24, 0, 1, 1))
	dear := longDay(2, 5, 4, mode(5, 4), mode(5, 3), mode(6, 3))
	sameBest(t, "a Mode ahead that costs more", dear, planned(24, 0, 1, 1))
	later := longDay(2, 5, 4, mode(5, 3), mode(10, 6), mode(0, 0))
	sameBest(t, "as cheap by going once as by going twice", later, planned(24, 0, 0, 0))
	once := longDay(2, 5, 4, mode(0, 0), mode(10, 6), mode(5, 3))
	sameBest(t, "as cheap by going twice as by going once", once, planned(24, 0, 1, 0))
}

func TestBestWithoutAPlan(t *testing.T) {
	for what, d := range map[string]impl.Day{
		"short in the first slot": longDay(2, 9, 1, mode(0, 1), mode(8, 1)),
		"short in the last slot":  changedDay(longDay(3, 1, 1, mode(1, 1)), func(d *impl.Day) { d.Wants[2] = 2 }),
		"over in the first slot":  changedDay(longDay(2, 1, 1, mode(2, 1), mode(3, 1)), func(d *impl.Day) { d.High = 0 }),
		"over in the last slot":   changedDay(longDay(3, 1, 1, mode(2, 1)), func(d *impl.Day) { d.High = 2 }),
		"dead ends":               changedDay(stairs(), func(d *impl.Day) { d.Tank = 4 }),
		"dead ends above":         changedDay(stairs(), func(d *impl.Day) { d.Tank = 9 }),
		"too much wanted":         changedDay(longDay(1, 1000, 1, mode(impl.MaxTank, 1)), func(d *impl.Day) { d.Tank = impl.MaxTank }),
	} {
		sameBest(t, what, d, dayFault(impl.ErrShort))
	}
}

func TestBestOfWrong(t *testing.T) {
	for what, d := range wrongDays() {
		sameBest(t, what, d, dayFault(impl.ErrForm))
		watchedDay(t, "DayTable, "+what, d, func(d impl.Day) {
			if got := impl.DayTable(d); len(got) > 0 {
				t.Errorf("DayTable, %s: got %v, want none", what, got)
			}
		})
		sameTableRight(t, what, d, pumpTable(), false)
		sameTableRight(t, what+", no table", d, nil, false)
		sameTableRight(t, what+", an empty table", d, [][]int64{}, false)
		sameTableRight(t, what+", noughts", d, [][]int64{numbers(0, 11), numbers(0, 11), numbers(0, 11), numbers(0, 11), numbers(0, 11)}, false)
	}
}

// wrongTables are pumpTable but for what their names say.
func wrongTables() map[string][][]int64 {
	wrong := map[string][][]int64{"none": nil, "an empty one": {}, "MaxList and one rows": make([][]int64, impl.MaxList+1)}
	add := func(what string, change func(table [][]int64) [][]int64) {
		wrong[what] = change(pumpTable())
	}
	add("the last row alone", func(table [][]int64) [][]int64 { return table[4:] })
	add("without its first row", func(table [][]int64) [][]int64 { return table[1:] })
	add("without its last row", func(table [][]int64) [][]int64 { return table[:4] })
	add("the last row twice", func(table [][]int64) [][]int64 { return append(table, table[4]) })
	add("the first row twice", func(table [][]int64) [][]int64 { return slices.Insert(table, 0, table[0]) })
	add("rows the other way round", func(table [][]int64) [][]int64 { slices.Reverse(table); return table })
	add("empty rows", func(table [][]int64) [][]int64 { return make([][]int64, 5) })
	for i := range 5 {
		at := " of row " + decimal(int64(i))
		add("the last number gone"+at, func(table [][]int64) [][]int64 { table[i] = table[i][:10]; return table })
		add("the first number gone"+at, func(table [][]int64) [][]int64 { table[i] = table[i][1:]; return table })
		add("a number more"+at, func(table [][]int64) [][]int64 { table[i] = append(table[i], 0); return table })
		add("all numbers"+at, func(table [][]int64) [][]int64 { table[i] = nil; return table })
	}
	for what, n := range map[string]int64{"MinInt64": math.MinInt64, "MaxInt64": math.MaxInt64, "-1": -1, "-2": -2, "1000": 1000} {
		add("the last row of "+what, func(table [][]int64) [][]int64 { table[4] = numbers(n, 11); return table })
		add("a row of "+what, func(table [][]int64) [][]int64 { table[1] = numbers(n, 11); return table })
		add("all of "+what, func(table [][]int64) [][]int64 {
			for i := range table {
				table[i] = numbers(n, 11)
			}
			return table
		})
	}
	return wrong
}

func TestTableRightOfWrongTables(t *testing.T) {
	for what, table := range wrongTables() {
		sameTableRight(t, what, pumpDay(), table, false)
	}
	for i, row := range pumpTable() {
		for j, n := range row {
			for _, other := range []int64{n - 1, n + 1, -1, -2, n + 1000, math.MinInt64, math.MaxInt64} {
				table := pumpTable()
				table[i][j] = other
				sameTableRight(t, "number "+decimal(int64(j))+" of row "+decimal(int64(i)), pumpDay(), table, false)
			}
		}
	}
}

// TestTableRightByItself asks for tables of which each number follows from the next row, but the last
// row is not noughts.
func TestTableRightByItself(t *testing.T) {
	dead := make([][]int64, 5)
	for i := range dead {
		dead[i] = numbers(-1, 11)
	}
	sameTableRight(t, "nothing leads on", pumpDay(), dead, false)
	more := pumpTable()
	for i := range more {
		for j := range more[i] {
			more[i][j]++
		}
	}
	sameTableRight(t, "one more is paid behind the end", pumpDay(), more, false)
}

func TestTableRightOfOtherDays(t *testing.T) {
	for what, change := range map[string]func(d *impl.Day){
		"another Want":  func(d *impl.Day) { d.Wants[3]++ },
		"another Price": func(d *impl.Day) { d.Prices[0]++ },
		"another Power": func(d *impl.Day) { d.Modes[1].Power++ },
		"another Lift":  func(d *impl.Day) { d.Modes[2].Lift-- },
		"another Low":   func(d *impl.Day) { d.Low-- },
		"another High":  func(d *impl.Day) { d.High++ },
		"a Mode more":   func(d *impl.Day) { d.Modes = append(d.Modes, mode(5, 0)) },
		"a Mode less":   func(d *impl.Day) { d.Modes = d.Modes[:2] },
	} {
		sameTableRight(t, what, changedDay(pumpDay(), change), pumpTable(), false)
	}
	sameTableRight(t, "another Tank", changedDay(pumpDay(), func(d *impl.Day) { d.Tank++ }), pumpTable(), true)
	sameTableRight(t, "Low and High moved together", changedDay(pumpDay(), func(d *impl.Day) { d.Low--; d.High-- }), pumpTable(), true)
}

func TestTableIsNew(t *testing.T) {
	d := pumpDay()
	table := impl.DayTable(d)
	for i, row := range table {
		for j := range row {
			row[j] = -9
		}
		// What is put behind the end of one row may not come into another.
		_ = append(row, -8, -8)
		if i+1 < len(table) && !slices.Equal(table[i+1], pumpTable()[i+1]) {
			t.Errorf("row %d lies in row %d", i+1, i)
		}
	}
	sameTable(t, "behind a spoilt table", d, pumpTable())
	best := impl.DayBest(d)
	best.Modes[0] = -9
	sameBest(t, "behind a spoilt answer", d, planned(14, 3, 1, 2, 0, 0))
}

// TestTableAtTheSameTime asks for several tables of one day at once.
func TestTableAtTheSameTime(t *testing.T) {
	d := pumpDay()
	right := make([]bool, 20)
	var callers sync.WaitGroup
	for i := range right {
		callers.Add(1)
		go func() {
			defer callers.Done()
			right[i] = sameTables(impl.DayTable(d), pumpTable()) && impl.TableRight(d, pumpTable()) && impl.DayBest(d).Cost == 14
		}()
	}
	callers.Wait()
	if slices.Contains(right, false) {
		t.Errorf("several at once: got %v", right)
	}
}

// plainPlans goes through all plans, the first one first.
func plainPlans(d impl.Day, ahead []int64, tell func(modes []int64, out impl.DayOut)) {
	if len(ahead) == len(d.Wants) {
		if out := plainCost(d, ahead); out.Code == impl.OK {
			tell(ahead, out)
		}
		return
	}
	for place := range d.Modes {
		plainPlans(d, append(slices.Clone(ahead), int64(place)), tell)
	}
}

func plainBest(d impl.Day) impl.DayOut {
	best := dayFault(impl.ErrShort)
	plainPlans(d, nil, func(modes []int64, out impl.DayOut) {
		if best.Code != impl.OK || out.Cost < best.Cost {
			best = planned(out.Cost, out.End, modes...)
		}
	})
	return best
}

// plainTable asks of each slot and tank for the best plan of the rest of the day.
func plainTable(d impl.Day) [][]int64 {
	var table [][]int64
	for slot := range d.Wants {
		var row []int64
		for tank := d.Low; tank <= d.High; tank++ {
			rest := d
			rest.Wants, rest.Prices, rest.Tank = d.Wants[slot:], d.Prices[slot:], tank
			if best := plainBest(rest); best.Code == impl.OK {
				row = append(row, best.Cost)
			} else {
				row = append(row, -1)
			}
		}
		table = append(table, row)
	}
	return append(table, make([]int64, d.High-d.Low+1))
}

func TestBestOfAny(t *testing.T) {
	random := rand.New(rand.NewSource(132))
	seen := map[int64]int{}
	for i := range 3000 {
		d := anyDay(random, 1+random.Intn(5), 1+random.Intn(4), impl.MaxTank)
		if i%3 == 0 {
			d = anyDay(random, 1+random.Intn(3), 1+random.Intn(impl.MaxModes), 5)
		}
		want := plainBest(d)
		sameBest(t, "any", d, want)
		if t.Failed() {
			t.Fatalf("of %+v", d)
		}
		seen[want.Code]++
	}
	if seen[impl.OK] < 500 || seen[impl.ErrShort] < 500 {
		t.Errorf("%v: too few to tell", seen)
	}
}

func TestTableOfAny(t *testing.T) {
	random := rand.New(rand.NewSource(133))
	seen := map[bool]int{}
	for range 400 {
		d := anyDay(random, 1+random.Intn(4), 1+random.Intn(3), 30)
		want := plainTable(d)
		sameTable(t, "any", d, want)
		if t.Failed() {
			t.Fatalf("of %+v", d)
		}
		for _, row := range want {
			for _, n := range row {
				seen[n < 0]++
			}
		}
	}
	if seen[true] < 1000 || seen[false] < 1000 {
		t.Errorf("%v: too few to tell", seen)
	}
}
