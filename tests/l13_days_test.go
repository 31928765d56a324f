package tests

import (
	"math/rand"
	"slices"
	"testing"

	"loop.example/g00068/impl"
)

func mode(lift int64, power int64) impl.Mode {
	return impl.Mode{Lift: lift, Power: power}
}

// changedDay is a copy of a day but for what is changed of it.
func changedDay(d impl.Day, change func(d *impl.Day)) impl.Day {
	d.Modes, d.Wants, d.Prices = slices.Clone(d.Modes), slices.Clone(d.Wants), slices.Clone(d.Prices)
	change(&d)
	return d
}

// pumpDay stands still, or goes with a pump, or with two of them.
func pumpDay() impl.Day {
	return impl.Day{
		Modes:  []impl.Mode{{}, mode(4, 3), mode(9, 8)},
		Wants:  []int64{3, 5, 2, 6},
		Prices: []int64{2, 1, 4, 7},
		Tank:   6, Low: 2, High: 12,
	}
}

// longDay has so many slots, all alike.
func longDay(slots int, want int64, price int64, modes ...impl.Mode) impl.Day {
	return impl.Day{Modes: modes, Wants: numbers(want, slots), Prices: numbers(price, slots), High: impl.MaxTank}
}

// watchedDay calls with a day of its own, and tells if it was changed.
func watchedDay(t *testing.T, what string, d impl.Day, call func(d impl.Day)) {
	t.Helper()
	given := d
	given.Modes = slices.Concat(d.Modes, []impl.Mode{mode(-7, -7)})[:len(d.Modes)]
	given.Wants, given.Prices = roomyPlaces(d.Wants), roomyPlaces(d.Prices)
	call(given)
	if !slices.Equal(given.Modes[:len(d.Modes)+1], slices.Concat(d.Modes, []impl.Mode{mode(-7, -7)})) {
		t.Errorf("%s: the Modes were changed", what)
	}
	if !keptPlaces(given.Wants, d.Wants) || !keptPlaces(given.Prices, d.Prices) {
		t.Errorf("%s: the Wants or the Prices were changed", what)
	}
}

// wrongDays are right but for what their names say.
func wrongDays() map[string]impl.Day {
	wrong := map[string]impl.Day{"none": {}}
	add := func(what string, change func(d *impl.Day)) {
		wrong[what] = changedDay(pumpDay(), change)
	}
	for what, n := range beside(0, 1000) {
		add("the first Want is "+what, func(d *impl.Day) { d.Wants[0] = n })
		add("the last Want is "+what, func(d *impl.Day) { d.Wants[3] = n })
		add("the first Price is "+what, func(d *impl.Day) { d.Prices[0] = n })
		add("the last Price is "+what, func(d *impl.Day) { d.Prices[3] = n })
		add("the first Power is "+what, func(d *impl.Day) { d.Modes[0].Power = n })
		add("the last Power is "+what, func(d *impl.Day) { d.Modes[2].Power = n })
	}
	for what, n := range beside(0, impl.MaxTank) {
		add("the first Lift is "+what, func(d *impl.Day) { d.Modes[0].Lift = n })
		add("the last Lift is "+what, func(d *impl.Day) { d.Modes[2].Lift = n })
		add("Low is "+what, func(d *impl.Day) { d.Low = n })
		add("High is "+what, func(d *impl.Day) { d.High = n })
		add("all of the tank is "+what, func(d *impl.Day) { d.Low, d.Tank, d.High = n, n, n })
	}
	for what, n := range beside(2, 12) {
		add("Tank is "+what, func(d *impl.Day) { d.Tank = n })
	}
	add("Low above Tank", func(d *impl.Day) { d.Low = 7 })
	add("High below Tank", func(d *impl.Day) { d.High = 5 })
	add("High below Low", func(d *impl.Day) { d.Low, d.High = 12, 2 })
	add("no slots", func(d *impl.Day) { d.Wants, d.Prices = nil, nil })
	add("no slots, empty lists", func(d *impl.Day) { d.Wants, d.Prices = []int64{}, []int64{} })
	add("no Wants", func(d *impl.Day) { d.Wants = nil })
	add("no Prices", func(d *impl.Day) { d.Prices = nil })
	add("a Want too few", func(d *impl.Day) { d.Wants = d.Wants[:3] })
	add("a Price too few", func(d *impl.Day) { d.Prices = d.Prices[:3] })
	add("a Want too many", func(d *impl.Day) { d.Wants = append(d.Wants, 0) })
	add("a Price too many", func(d *impl.Day) { d.Prices = append(d.Prices, 0) })
	add("one slot above MaxSlots", func(d *impl.Day) { d.Wants, d.Prices = numbers(0, impl.MaxSlots+1), numbers(0, impl.MaxSlots+1) })
	add("very many slots", func(d *impl.Day) { d.Wants, d.Prices = numbers(0, impl.MaxList+1), numbers(0, impl.MaxList+1) })
	add("no Modes", func(d *impl.Day) { d.Modes = nil })
	add("one Mode above MaxModes", func(d *impl.Day) { d.Modes = make([]impl.Mode, impl.MaxModes+1) })
	add("very many Modes", func(d *impl.Day) { d.Modes = make([]impl.Mode, impl.MaxList+1) })
	return wrong
}

// rightDays are at the limits, or of little.
func rightDays() map[string]impl.Day {
	right := map[string]impl.Day{
		"a day":           pumpDay(),
		"one slot":        longDay(1, 0, 0, mode(0, 0)),
		"MaxSlots":        longDay(impl.MaxSlots, 1000, 1000, mode(impl.MaxTank, 1000)),
		"MaxModes":        longDay(1, 0, 0, make([]impl.Mode, impl.MaxModes)...),
		"an empty tank":   {Modes: []impl.Mode{{}}, Wants: []int64{0}, Prices: []int64{0}},
		"no more than it": changedDay(pumpDay(), func(d *impl.Day) { d.Low, d.High = 6, 6 }),
	}
	add := func(what string, change func(d *impl.Day)) {
		right[what] = changedDay(pumpDay(), change)
	}
	add("Low is nought", func(d *impl.Day) { d.Low = 0 })
	add("High is MaxTank", func(d *impl.Day) { d.High = impl.MaxTank })
	add("Tank is Low", func(d *impl.Day) { d.Tank = 2 })
	add("Tank is High", func(d *impl.Day) { d.Tank = 12 })
	add("all of the tank is MaxTank", func(d *impl.Day) { d.Low, d.Tank, d.High = impl.MaxTank, impl.MaxTank, impl.MaxTank })
	add("Modes alike", func(d *impl.Day) { d.Modes[1] = d.Modes[2] })
	return right
}

func sameDayRight(t *testing.T, what string, d impl.Day, want bool) {
	t.Helper()
	watchedDay(t, "DayRight, "+what, d, func(d impl.Day) {
		if got := impl.DayRight(d); got != want {
			t.Errorf("DayRight, %s: got %v, want %v", what, got, want)
		}
	})
}

func TestDayRight(t *testing.T) {
	for what, d := range rightDays() {
		sameDayRight(t, what, d, true)
	}
	for what, d := range wrongDays() {
		sameDayRight(t, what, d, false)
	}
}

func dayFault(code int64) impl.DayOut {
	return impl.DayOut{Code: code}
}

func planned(cost int64, end int64, modes ...int64) impl.DayOut {
	return impl.DayOut{Modes: modes, Cost: cost, End: end}
}

func sameDayOut(t *testing.T, what string, got impl.DayOut, want impl.DayOut) {
	t.Helper()
	if !slices.Equal(got.Modes, want.Modes) || got.Cost != want.Cost || got.End != want.End || got.Code != want.Code {
		t.Errorf("%s: got %+v, want %+v", what, got, want)
	}
}

func sameDayCost(t *testing.T, what string, d impl.Day, modes []int64, want impl.DayOut) {
	t.Helper()
	given := roomyPlaces(modes)
	watchedDay(t, "DayCost, "+what, d, func(d impl.Day) {
		sameDayOut(t, "DayCost, "+what, impl.DayCost(d, given), want)
	})
	if !keptPlaces(given, modes) {
		t.Errorf("DayCost, %s: the modes were changed", what)
	}
}

func TestDayCostByHand(t *testing.T) {
	d := pumpDay()
	sameDayCost(t, "a pump", d, []int64{1, 1, 1, 1}, planned(6+3+12+21, 6, 1, 1, 1, 1))
	sameDayCost(t, "early", d, []int64{1, 2, 0, 0}, planned(6+8, 3, 1, 2, 0, 0))
	sameDayCost(t, "two pumps, then none", d, []int64{2, 0, 1, 0}, planned(16+12, 3, 2, 0, 1, 0))
	sameDayCost(t, "late", d, []int64{0, 1, 1, 2}, planned(3+12+56, 7, 0, 1, 1, 2))
	one := longDay(1, 7, 3, mode(0, 5), mode(7, 0), mode(9, 2))
	sameDayCost(t, "one slot, as much as is wanted", one, []int64{1}, planned(0, 0, 1))
	sameDayCost(t, "one slot, more", one, []int64{2}, planned(6, 2, 2))
	sameDayCost(t, "one slot, less", one, []int64{0}, dayFault(impl.ErrShort))
}

func TestDayCostAtTheTanksLimits(t *testing.T) {
	d := impl.Day{Modes: []impl.Mode{{}, mode(8, 1)}, Wants: []int64{4, 4, 4}, Prices: []int64{1, 1, 1}, Tank: 8, Low: 4, High: 12}
	sameDayCost(t, "down to Low and up again", d, []int64{0, 1, 0}, planned(1, 4, 0, 1, 0))
	sameDayCost(t, "up to High and down again", d, []int64{1, 0, 0}, planned(1, 4, 1, 0, 0))
	sameDayCost(t, "High in the end", d, []int64{0, 1, 1}, planned(2, 12, 0, 1, 1))
	sameDayCost(t, "below Low on the way", d, []int64{0, 0, 1}, dayFault(impl.ErrShort))
	sameDayCost(t, "above High on the way", d, []int64{1, 1, 0}, dayFault(impl.ErrShort))
	sameDayCost(t, "High twice", d, []int64{1, 0, 1}, planned(2, 12, 1, 0, 1))
	sameDayCost(t, "one above High on the way", changedDay(d, func(d *impl.Day) { d.Wants[0] = 3 }), []int64{1, 0, 0}, dayFault(impl.ErrShort))
	for slot := range 3 {
		more := changedDay(d, func(d *impl.Day) { d.Wants[slot] = 5 })
		sameDayCost(t, "one below Low, a slot with more wanted", more, []int64{0, 1, 0}, dayFault(impl.ErrShort))
		less := changedDay(d, func(d *impl.Day) { d.Wants[slot] = 3 })
		sameDayCost(t, "one above High, a slot with less wanted", less, []int64{0, 1, 1}, dayFault(impl.ErrShort))
	}
	full := changedDay(d, func(d *impl.Day) { d.Modes[1].Lift, d.Wants[0], d.High = impl.MaxTank, impl.MaxTank, 8 })
	sameDayCost(t, "above High within a slot alone", changedDay(full, func(d *impl.Day) { d.Wants = d.Wants[:1]; d.Prices = d.Prices[:1] }), []int64{1}, planned(1, 8, 1))
}

func TestDayCostGreatest(t *testing.T) {
	d := longDay(impl.MaxSlots, impl.MaxTank, 1000, mode(impl.MaxTank, 1000))
	sameDayCost(t, "all at its most", d, numbers(0, impl.MaxSlots), planned(48*1000*1000, 0, numbers(0, impl.MaxSlots)...))
	many := longDay(impl.MaxSlots, 5, 1, mode(0, 9), mode(0, 9), mode(0, 9), mode(0, 9), mode(0, 9), mode(5, 2))
	sameDayCost(t, "the last of MaxModes", many, numbers(5, impl.MaxSlots), planned(96, 0, numbers(5, impl.MaxSlots)...))
	sameDayCost(t, "one beyond it", many, append(numbers(5, impl.MaxSlots-1), 6), dayFault(impl.ErrForm))
	sameDayCost(t, "all wants at their most", longDay(1, 1000, 1, mode(impl.MaxTank, 1)), []int64{0}, dayFault(impl.ErrShort))
}

func TestDayCostFaults(t *testing.T) {
	d := pumpDay()
	for what, place := range beside(0, 2) {
		sameDayCost(t, "the first mode is "+what, d, []int64{place, 2, 0, 0}, dayFault(impl.ErrForm))
		sameDayCost(t, "the last mode is "+what, d, []int64{1, 2, 0, place}, dayFault(impl.ErrForm))
		sameDayCost(t, "short, and the last mode is "+what, d, []int64{0, 0, 0, place}, dayFault(impl.ErrForm))
	}
	for what, modes := range map[string][]int64{
		"none": nil, "an empty list": {}, "one too few": {1, 2, 0}, "one too many": {1, 2, 0, 0, 0},
		"one too few, short": {0, 0, 0}, "one too many, short": {0, 0, 0, 0, 0}, "MaxList": numbers(1, impl.MaxList),
	} {
		sameDayCost(t, "modes, "+what, d, modes, dayFault(impl.ErrForm))
	}
	sameDayCost(t, "one above MaxList", d, numbers(1, impl.MaxList+1), dayFault(impl.ErrSize))
	sameDayCost(t, "one above MaxList, no places", d, numbers(-1, impl.MaxList+1), dayFault(impl.ErrSize))
	for what, d := range wrongDays() {
		sameDayCost(t, what, d, []int64{1, 2, 0, 0}, dayFault(impl.ErrForm))
		sameDayCost(t, what+", short", d, []int64{0, 0, 0, 0}, dayFault(impl.ErrForm))
		sameDayCost(t, what+", no modes", d, nil, dayFault(impl.ErrForm))
		sameDayCost(t, what+", as many modes as Wants", d, make([]int64, min(len(d.Wants), impl.MaxList)), dayFault(impl.ErrForm))
		sameDayCost(t, what+", MaxList modes", d, numbers(1, impl.MaxList), dayFault(impl.ErrForm))
		sameDayCost(t, what+", one above MaxList", d, numbers(1, impl.MaxList+1), dayFault(impl.ErrSize))
	}
}

func TestDayCostIsNew(t *testing.T) {
	d, modes := pumpDay(), []int64{1, 2, 0, 0}
	first := impl.DayCost(d, modes)
	modes[0] = 9
	samePlaces(t, "behind spoilt modes", first.Modes, []int64{1, 2, 0, 0})
	first.Modes[1] = 9
	sameDayCost(t, "behind a spoilt answer", d, []int64{1, 2, 0, 0}, planned(14, 3, 1, 2, 0, 0))
	samePlaces(t, "modes behind a spoilt answer", modes, []int64{9, 2, 0, 0})
}

// anyDay has wants and Lifts of about the tank's size, so that plans are neither rare nor sure, and few
// prices, so that several plans cost the same.
func anyDay(random *rand.Rand, slots int, modes int, tank int64) impl.Day {
	d := impl.Day{Low: anyNumber(random, tank), High: anyNumber(random, tank)}
	d.Low, d.High = min(d.Low, d.High), max(d.Low, d.High)
	d.Tank = d.Low + anyNumber(random, d.High-d.Low)
	room, most := d.High-d.Low+2, []int64{1, 3, 1000}[random.Intn(3)]
	for range modes {
		d.Modes = append(d.Modes, mode(min(random.Int63n(room), impl.MaxTank), anyNumber(random, most)))
	}
	for range slots {
		d.Wants = append(d.Wants, random.Int63n(room))
		d.Prices = append(d.Prices, anyNumber(random, most))
	}
	return d
}

// plainCost goes from slot to slot by a tank that is filled and emptied.
func plainCost(d impl.Day, modes []int64) impl.DayOut {
	tank, bill := d.Tank, int64(0)
	for len(modes) > 0 {
		used := d.Modes[modes[0]]
		bill += used.Power * d.Prices[len(d.Prices)-len(modes)]
		tank += used.Lift
		tank -= d.Wants[len(d.Wants)-len(modes)]
		if tank < d.Low || tank > d.High {
			return dayFault(impl.ErrShort)
		}
		modes = modes[1:]
	}
	return impl.DayOut{Cost: bill, End: tank}
}

func TestDayCostOfAny(t *testing.T) {
	random := rand.New(rand.NewSource(131))
	seen := map[int64]int{}
	for range 5000 {
		d := anyDay(random, 1+random.Intn(4), 1+random.Intn(impl.MaxModes), impl.MaxTank)
		modes := make([]int64, len(d.Wants))
		for slot := range modes {
			modes[slot] = random.Int63n(int64(len(d.Modes)))
		}
		want := plainCost(d, modes)
		if want.Code == impl.OK {
			want.Modes = modes
		}
		sameDayCost(t, "any", d, modes, want)
		if t.Failed() {
			t.Fatalf("of %+v, %v", d, modes)
		}
		seen[want.Code]++
	}
	if seen[impl.OK] < 500 || seen[impl.ErrShort] < 500 {
		t.Errorf("%v: too few to tell", seen)
	}
}
