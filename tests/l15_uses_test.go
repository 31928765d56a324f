package tests

import (
	"math"
	"math/rand"
	"slices"
	"testing"

	"loop.example/g00068/impl"
)

func use(from int64, to int64, water int64) impl.Use {
	return impl.Use{From: from, To: to, Water: water, Kind: impl.ReadGood}
}

// sameUse calls with uses of its own, with room behind them, and tells if these were changed.
func sameUse(t *testing.T, what string, list []impl.Use, from int64, to int64, want int64) {
	t.Helper()
	behind := use(-7, -7, -7)
	given := slices.Concat(list, []impl.Use{behind})
	if got := impl.UseOf(given[:len(list)], from, to); got != want {
		t.Errorf("UseOf, %s, from %d to %d: got %d, want %d", what, from, to, got, want)
	}
	if !slices.Equal(given[:len(list)], list) || given[len(list)] != behind {
		t.Errorf("UseOf, %s: the uses were changed", what)
	}
}

func TestUseOfOne(t *testing.T) {
	ten := []impl.Use{use(20, 30, 105)}
	for _, c := range []struct{ from, to, want int64 }{
		{20, 30, 105}, {0, impl.MaxDays, 105}, {-5, 40, 105}, {math.MinInt64, math.MaxInt64, 105},
		{20, 25, 52}, {25, 30, 52}, {20, 21, 10}, {29, 30, 10}, {20, 29, 94}, {21, 30, 94}, {24, 26, 21},
		{0, 21, 10}, {29, 90, 10}, {0, 25, 52}, {25, 90, 52}, {math.MinInt64, 25, 52}, {25, math.MaxInt64, 52},
		{20, 20, 0}, {25, 25, 0}, {30, 30, 0}, {0, 0, 0}, {90, 90, 0},
		{0, 20, 0}, {0, 19, 0}, {30, 31, 0}, {31, 90, 0}, {-9, -5, 0}, {impl.MaxDays, impl.MaxDays + 1, 0},
		{math.MinInt64, math.MinInt64, 0}, {math.MaxInt64, math.MaxInt64, 0}, {math.MinInt64, 20, 0}, {30, math.MaxInt64, 0},
		{30, 20, 0}, {26, 25, 0}, {90, 0, 0}, {math.MaxInt64, math.MinInt64, 0}, {0, -1, 0},
	} {
		sameUse(t, "one of ten days", ten, c.from, c.to, c.want)
	}
	sameUse(t, "of a day", []impl.Use{use(0, 1, 7)}, 0, 1, 7)
	sameUse(t, "of a day, ahead of it", []impl.Use{use(5, 6, 7)}, 4, 5, 0)
	sameUse(t, "of the last day", []impl.Use{use(impl.MaxDays-1, impl.MaxDays, 7)}, impl.MaxDays-1, impl.MaxDays, 7)
	sameUse(t, "of no water", []impl.Use{use(0, 9, 0)}, 0, 9, 0)
	sameUse(t, "of all days", []impl.Use{use(0, impl.MaxDays, impl.MaxWater)}, 0, impl.MaxDays-1, impl.MaxWater-10000)
}

func TestUseOfSeveral(t *testing.T) {
	sameUse(t, "none, nil", nil, 0, 9, 0)
	sameUse(t, "none", []impl.Use{}, 0, 9, 0)
	list := []impl.Use{use(0, 3, 10), use(3, 6, 20), use(6, 10, 30)}
	sameUse(t, "all", list, 0, 10, 60)
	sameUse(t, "each is rounded by itself", list, 1, 8, 6+20+15)
	sameUse(t, "each is rounded down", list, 2, 4, 3+6)
	sameUse(t, "within one", list, 4, 5, 6)
	sameUse(t, "in another order", []impl.Use{list[2], list[0], list[1]}, 1, 8, 41)
	sameUse(t, "with gaps", []impl.Use{list[0], list[2]}, 1, 8, 21)
	sameUse(t, "over one another", []impl.Use{list[0], list[0], use(0, 10, 100)}, 0, 3, 50)
	for _, kind := range []int64{0, impl.ReadHigh, impl.ReadLow, impl.ReadGuess, 5, -1, math.MaxInt64} {
		sameUse(t, "of any Kind", []impl.Use{{From: 0, To: 4, Water: 10, Kind: kind}}, 0, 2, 5)
	}
}

func TestUseOfRefused(t *testing.T) {
	good := use(0, 10, 100)
	for what, bad := range map[string]impl.Use{
		"none":                       {},
		"From is To":                 use(5, 5, 3),
		"From is To, at 0":           use(0, 0, 3),
		"From is To, at MaxDays":     use(impl.MaxDays, impl.MaxDays, 3),
		"From is above To":           use(6, 5, 3),
		"From is below 0":            use(-1, 5, 3),
		"From is the least":          use(math.MinInt64, 5, 3),
		"From is the most":           use(math.MaxInt64, 5, 3),
		"To is above MaxDays":        use(5, impl.MaxDays+1, 3),
		"To is the most":             use(5, math.MaxInt64, 3),
		"To is the least":            use(5, math.MinInt64, 3),
		"both ends are below 0":      use(-5, -3, 3),
		"both ends are too great":    use(impl.MaxDays+1, impl.MaxDays+2, 3),
		"both ends are the furthest": use(math.MinInt64, math.MaxInt64, 3),
		"Water is below 0":           use(0, 5, -1),
		"Water is above MaxWater":    use(0, 5, impl.MaxWater+1),
		"Water is the least":         use(0, 5, math.MinInt64),
		"Water is the most":          use(0, 5, math.MaxInt64),
	} {
		sameUse(t, what, []impl.Use{bad}, 0, 10, 0)
		sameUse(t, what+", elsewhere", []impl.Use{bad, good}, 9, 10, 0)
		sameUse(t, what+", behind others", []impl.Use{good, good, bad}, 0, 10, 0)
		sameUse(t, what+", within others", []impl.Use{good, bad, good}, 0, 10, 0)
	}
	sameUse(t, "from above to", []impl.Use{good}, 10, 0, 0)
}

func TestUseOfSize(t *testing.T) {
	most := slices.Repeat([]impl.Use{use(0, impl.MaxDays, impl.MaxWater)}, impl.MaxList+1)
	sameUse(t, "MaxList", most[:impl.MaxList], 0, impl.MaxDays, impl.MaxList*impl.MaxWater)
	sameUse(t, "MaxList, half of the days", most[:impl.MaxList], 0, impl.MaxDays/2, impl.MaxList*impl.MaxWater/2)
	sameUse(t, "one more", most, 0, impl.MaxDays, 0)
}

// plainUse counts days one by one.
func plainUse(list []impl.Use, from int64, to int64) int64 {
	sum := int64(0)
	for _, u := range list {
		days, all := int64(0), int64(0)
		for day := u.From; day < u.To; day++ {
			if day >= from && day < to {
				days++
			}
			all++
		}
		sum += share(u.Water, days, all)
	}
	return sum
}

func TestUseOfAny(t *testing.T) {
	random := rand.New(rand.NewSource(153))
	told := 0
	for range 3000 {
		list := make([]impl.Use, random.Intn(8))
		for i := range list {
			from := random.Int63n(80)
			list[i] = use(from, from+1+random.Int63n(30), anyNumber(random, []int64{99, impl.MaxWater}[random.Intn(2)]))
		}
		from := random.Int63n(130) - 10
		to := from + random.Int63n(60)
		want := plainUse(list, from, to)
		sameUse(t, "any", list, from, to, want)
		if t.Failed() {
			t.Fatalf("of %+v", list)
		}
		told += int(min(1, want))
	}
	if told < 1000 {
		t.Errorf("%d told water: too few to tell", told)
	}
}
