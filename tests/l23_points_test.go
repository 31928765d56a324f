package tests

import (
	"math"
	"math/rand"
	"slices"
	"testing"

	"loop.example/g00068/impl"
)

// points are given as Ats and Values by turns.
func points(atsAndValues ...int64) []impl.Point {
	var list []impl.Point
	for pair := range slices.Chunk(atsAndValues, 2) {
		list = append(list, impl.Point{At: pair[0], Value: pair[1]})
	}
	return list
}

// pointMark is put behind the ends of what is handed in.
func pointMark() impl.Point {
	return impl.Point{At: -7, Value: -7}
}

// watchedPoints calls with Points of its own, with room behind them, and tells if these were changed.
func watchedPoints(t *testing.T, what string, list []impl.Point, call func(own []impl.Point)) {
	t.Helper()
	own := roomyOf(list, pointMark())
	call(own)
	if !keptOf(own, list, pointMark()) {
		t.Errorf("%s: the Points were changed", what)
	}
}

// watchedValues does the same with values.
func watchedValues(t *testing.T, what string, values []int64, call func(own []int64)) {
	t.Helper()
	own := roomyOf(values, -7)
	call(own)
	if !keptOf(own, values, -7) {
		t.Errorf("%s: the values were changed", what)
	}
}

func TestHistoryNumbers(t *testing.T) {
	samePlaces(t, "points", []int64{impl.MaxPoints}, []int64{300})
}

// eachPlace has a Point at each place from 0 on, its Value by turns one of both.
func eachPlace(count int, even int64, odd int64) []impl.Point {
	var list []impl.Point
	for at := range int64(count) {
		list = append(list, impl.Point{At: at, Value: []int64{even, odd}[at%2]})
	}
	return list
}

// tideway is a history of all kinds of steps: some far, some up, some down, one that stays.
func tideway() []impl.Point {
	return points(0, 5, 1, 7, 3, 7, 10, -63, 140, 1, 141, -100000, 299, impl.MaxFlow)
}

// rightHistories are at the limits, or of little.
func rightHistories() map[string][]impl.Point {
	most := int64(impl.MaxFlow)
	return map[string][]impl.Point{
		"none, nil":             nil,
		"none":                  {},
		"a tideway":             tideway(),
		"one of nought":         points(0, 0),
		"one, the greatest":     points(0, most),
		"one, the least":        points(0, -most),
		"Values alike":          points(0, 3, 1, 3, 2, 3),
		"the last place":        points(0, 1, 299, 2),
		"the last two places":   points(0, 1, 298, 2, 299, 3),
		"up and down":           points(0, -most, 1, most, 2, -most),
		"as many as may be":     eachPlace(300, 4, -4),
		"all that may be":       eachPlace(300, -most, most),
		"all that may be, down": eachPlace(300, most, -most),
		"far apart":             points(0, 1, 127, 2, 254, 3),
		"further apart":         points(0, 1, 128, 2, 256, 3),
	}
}

// wrongHistories are right but for what their names say.
func wrongHistories() map[string][]impl.Point {
	wrong := map[string][]impl.Point{
		"the first At is one":       points(1, 5),
		"all Ats are one too far":   points(1, 5, 2, 5),
		"the first At is the last":  points(299, 5),
		"Ats alike":                 points(0, 5, 0, 5),
		"Ats alike, other Values":   points(0, 5, 0, 6),
		"Ats alike in the end":      points(0, 5, 3, 6, 3, 7),
		"Ats that fall":             points(0, 5, 3, 6, 2, 7),
		"back to nought":            points(0, 5, 3, 6, 0, 7),
		"one too many":              append(eachPlace(300, 1, 2), impl.Point{At: 300, Value: 1}),
		"the last place twice":      append(eachPlace(300, 1, 2), impl.Point{At: 299, Value: 1}),
		"one behind the last place": points(0, 1, 299, 2, 300, 3),
		"MaxList":                   eachPlace(impl.MaxList, 1, 2),
		"above MaxList":             eachPlace(impl.MaxList+1, 1, 2),
		"many of nothing":           make([]impl.Point, 301),
	}
	add := func(what string, place int, p impl.Point) {
		list := tideway()
		list[place] = p
		wrong[what+", place "+decimal(int64(place))] = list
	}
	for what, n := range beside(0, 299) {
		for place := range tideway() {
			add("At is "+what, place, impl.Point{At: n, Value: 5})
		}
	}
	for what, n := range beside(-impl.MaxFlow, impl.MaxFlow) {
		for place, p := range tideway() {
			add("Value is "+what, place, impl.Point{At: p.At, Value: n})
		}
		wrong["one Value, "+what] = points(0, n)
	}
	return wrong
}

func samePointsRight(t *testing.T, what string, list []impl.Point, want bool) {
	t.Helper()
	watchedPoints(t, "PointsRight, "+what, list, func(own []impl.Point) {
		t.Helper()
		if got := impl.PointsRight(own); got != want {
			t.Errorf("PointsRight, %s: got %v of %v", what, got, list)
		}
	})
}

func TestPointsRight(t *testing.T) {
	for what, list := range rightHistories() {
		samePointsRight(t, what, list, true)
		for count := range list {
			samePointsRight(t, what+", some of it", list[:count], true)
		}
	}
	for what, list := range wrongHistories() {
		samePointsRight(t, what, list, false)
	}
}

// TestPointsRightLimits: of as many as may be none may be turned.
func TestPointsRightLimits(t *testing.T) {
	full := eachPlace(300, 1, -1)
	for place := range full {
		for _, by := range []int64{-1, 1, -300, 300} {
			turned := slices.Clone(full)
			turned[place].At += by
			samePointsRight(t, "an At turned by "+decimal(by), turned, false)
		}
		left := slices.Delete(slices.Clone(full), place, place+1)
		samePointsRight(t, "without the one at "+decimal(int64(place)), left, place > 0)
	}
}

// TestPointsRightAllShort goes through all lists of up to three Points around the limits.
func TestPointsRightAllShort(t *testing.T) {
	var all []impl.Point
	for _, at := range []int64{-1, 0, 1, 2, 299, 300} {
		for _, value := range []int64{-impl.MaxFlow - 1, -impl.MaxFlow, impl.MaxFlow, impl.MaxFlow + 1} {
			all = append(all, impl.Point{At: at, Value: value})
		}
	}
	right := 0
	for _, first := range all {
		for _, second := range all {
			for _, third := range all {
				list := []impl.Point{first, second, third}
				for count := range 4 {
					samePointsRight(t, "all short ones", list[:count], plainPointsRight(list[:count]))
				}
				if impl.PointsRight(list) {
					right++
				}
			}
		}
	}
	if right != 3*8 { // three ways to set two on places behind the first one, and eight of three Values
		t.Errorf("%d lists of three are right", right)
	}
}

// plainPointsRight tells by the words of chapter 24.
func plainPointsRight(list []impl.Point) bool {
	for i, p := range list {
		switch {
		case i == 0 && p.At != 0, i > 0 && p.At <= list[i-1].At, p.At >= 300:
			return false
		case p.Value > 1000000 || p.Value < -1000000:
			return false
		}
	}
	return len(list) <= 300
}

// anyHistory is right; its steps are often small ones.
func anyHistory(random *rand.Rand) []impl.Point {
	seldom := 1 + random.Intn(1+random.Intn(150))
	var list []impl.Point
	for at := range int64(1 + anyNumber(random, 299)) {
		if at == 0 || random.Intn(seldom) == 0 {
			list = append(list, impl.Point{At: at, Value: anyValue(random)})
		}
	}
	return list
}

// anyValues are those of a history: often near to the ones ahead.
func anyValues(random *rand.Rand) []int64 {
	values := make([]int64, anyNumber(random, impl.MaxPoints))
	value := anyValue(random)
	for at := range values {
		switch random.Intn(8) {
		case 0:
			value = anyValue(random)
		case 1, 2, 3:
			value += random.Int63n(7) - 3
		}
		value = max(-impl.MaxFlow, min(impl.MaxFlow, value))
		values[at] = value
	}
	return values
}

// wrongValues can't be kept as Points.
func wrongValues() map[string][]int64 {
	wrong := map[string][]int64{
		"one too many":  numbers(1, impl.MaxPoints+1),
		"MaxList":       numbers(1, impl.MaxList),
		"above MaxList": numbers(1, impl.MaxList+1),
	}
	for what, n := range beside(-impl.MaxFlow, impl.MaxFlow) {
		wrong["one, "+what] = []int64{n}
		wrong["the first one "+what] = []int64{n, 0, 0}
		wrong["the last one "+what] = []int64{0, 0, n}
		wrong["all "+what] = numbers(n, impl.MaxPoints)
	}
	return wrong
}

// furthest are numbers of int64 that no limit lies near to.
func furthest() []int64 {
	return []int64{math.MinInt64, math.MinInt64 + 1, -1 << 32, 1 << 32, math.MaxInt64 - 1, math.MaxInt64}
}
