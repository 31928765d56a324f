package tests

import (
	"math"
	"math/rand"
	"slices"
	"strings"
	"testing"

	"loop.example/g00068/impl"
)

// sameRingsOk calls with rings of its own, with room behind them, and tells if these were changed.
func sameRingsOk(t *testing.T, what string, list []impl.Ring, want bool) {
	t.Helper()
	what = "RingsOk, " + what
	mark := impl.Ring{At: -7, State: -7}
	own := roomyOf(list, mark)
	if got := impl.RingsOk(own); got != want {
		t.Errorf("%s: got %v of %v", what, got, list)
	}
	if !keptOf(own, list, mark) {
		t.Errorf("%s: the rings were changed", what)
	}
}

func TestRingsOkByHand(t *testing.T) {
	sameRingsOk(t, "none, nil", nil, true)
	sameRingsOk(t, "none", []impl.Ring{}, true)
	sameRingsOk(t, "raised at once", rings(0, 2), true)
	sameRingsOk(t, "raised in the end", rings(299, 2), true)
	sameRingsOk(t, "raised too late", rings(300, 2), false)
	sameRingsOk(t, "ahead of the beginning", rings(-1, 2), false)
	for state := int64(0); state <= 5; state++ {
		sameRingsOk(t, "the first State", rings(1, state), state == 2)
	}
	sameRingsOk(t, "seen, rest", rings(0, 2, 1, 3, 2, 1), true)
	sameRingsOk(t, "gone, rest", rings(0, 2, 1, 4, 2, 1), true)
	sameRingsOk(t, "gone, raised", rings(0, 2, 1, 4, 2, 2, 3, 3, 4, 1, 5, 2), true)
	sameRingsOk(t, "with gaps", rings(3, 2, 40, 4, 298, 2, 299, 3), true)
	sameRingsOk(t, "Ats alike", rings(0, 2, 0, 3), false)
	sameRingsOk(t, "Ats alike in the end", rings(0, 2, 1, 3, 1, 1), false)
	sameRingsOk(t, "Ats that fall", rings(5, 2, 4, 3), false)
	sameRingsOk(t, "the last At too late", rings(298, 2, 299, 3, 300, 1), false)
	sameRingsOk(t, "raised twice", rings(0, 2, 1, 2), false)
	sameRingsOk(t, "raised, rest", rings(0, 2, 1, 1), false)
	sameRingsOk(t, "seen, raised", rings(0, 2, 1, 3, 2, 2), false)
	sameRingsOk(t, "seen, gone", rings(0, 2, 1, 3, 2, 4), false)
	sameRingsOk(t, "gone, seen", rings(0, 2, 1, 4, 2, 3), false)
	for what, n := range beside(0, impl.MaxValues-1) {
		sameRingsOk(t, "an At "+what, rings(n, 2), false)
		sameRingsOk(t, "the second At "+what, rings(0, 2, n, 3), false)
	}
	for what, n := range beside(1, 4) {
		sameRingsOk(t, "a State "+what, rings(0, n), false)
		sameRingsOk(t, "the second State "+what, rings(0, 2, 1, n), false)
		sameRingsOk(t, "the State behind seen "+what, rings(0, 2, 1, 3, 2, n), false)
		sameRingsOk(t, "the State behind gone "+what, rings(0, 2, 1, 4, 2, n), false)
	}
}

// roundRings are raised, seen and at rest by turns, each a place on.
func roundRings(count int) []impl.Ring {
	var list []impl.Ring
	for at := range count {
		list = append(list, impl.Ring{At: int64(at), State: []int64{2, 3, 1}[at%3]})
	}
	return list
}

func TestRingsOkLimits(t *testing.T) {
	full := roundRings(impl.MaxValues)
	for count := range impl.MaxValues + 1 {
		sameRingsOk(t, decimal(int64(count)), full[:count], true)
	}
	for place := range full {
		for _, r := range []impl.Ring{{At: int64(place) - 1, State: full[place].State}, {At: int64(place) + 1, State: full[place].State}, {At: int64(place)}} {
			turned := slices.Clone(full)
			turned[place] = r
			sameRingsOk(t, "turned at "+decimal(int64(place)), turned, false)
		}
	}
	sameRingsOk(t, "one too many", roundRings(impl.MaxValues+1), false)
	sameRingsOk(t, "MaxList", roundRings(impl.MaxList), false)
	sameRingsOk(t, "above MaxList", roundRings(impl.MaxList+1), false)
	sameRingsOk(t, "one too many from below nought on", slices.Concat(rings(math.MinInt64, 2), full), false)
}

// plainRingsOk looks for the ways from State to State in a text of them.
func plainRingsOk(list []impl.Ring) bool {
	ahead, at := "1", int64(-1)
	for _, r := range list {
		way := ahead + decimal(r.State)
		if r.At <= at || r.At > 299 || !slices.Contains(strings.Fields("12 23 24 31 42 41"), way) {
			return false
		}
		ahead, at = decimal(r.State), r.At
	}
	return true
}

// TestRingsOkAllShort goes through all lists of up to three rings with States around the limits.
func TestRingsOkAllShort(t *testing.T) {
	states, ats := []int64{0, 1, 2, 3, 4, 5}, []int64{-1, 0, 1, 2, 299, 300}
	var all []impl.Ring
	for _, at := range ats {
		for _, state := range states {
			all = append(all, impl.Ring{At: at, State: state})
		}
	}
	right := 0
	for _, first := range all {
		for _, second := range all {
			for _, third := range all {
				list := []impl.Ring{first, second, third}
				for count := range 4 {
					sameRingsOk(t, "all short ones", list[:count], plainRingsOk(list[:count]))
				}
				if impl.RingsOk(list) {
					right++
				}
			}
		}
	}
	if right != 3*4 { // three ways of three turns, and four ways to set them on places
		t.Errorf("%d lists of three are right", right)
	}
}

// TestRingsOkAllWays goes through all ways of five States.
func TestRingsOkAllWays(t *testing.T) {
	for n := range int64(6 * 6 * 6 * 6 * 6) {
		list := rings(0, n%6, 1, n/6%6, 2, n/36%6, 3, n/216%6, 4, n/1296)
		sameRingsOk(t, "all ways", list, plainRingsOk(list))
	}
}

// TestRingsOkOfRuns: what a run of an alarm at rest tells is right.
func TestRingsOkOfRuns(t *testing.T) {
	random := rand.New(rand.NewSource(222))
	many := 0
	for range 2000 {
		a := changedAlarm(anyAlarm(random), func(a *impl.Alarm) { a.State = impl.AlarmRest })
		list := impl.AlarmRun(a, anyActs(random, a, impl.MaxValues)).Rings
		sameRingsOk(t, "of a run", list, true)
		if len(list) > 5 {
			many++
		}
	}
	if many < 300 {
		t.Errorf("%d of many turns: too few to tell", many)
	}
}
