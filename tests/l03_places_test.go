package tests

import (
	"math"
	"math/rand"
	"slices"
	"testing"

	"loop.example/g00068/impl"
)

func samePlaces(t *testing.T, what string, got []int64, want []int64) {
	t.Helper()
	if !slices.Equal(got, want) {
		t.Errorf("%s: got %v, want %v", what, got, want)
	}
}

func TestRiverShort(t *testing.T) {
	samePlaces(t, "forks", impl.RiverShort(forks(), []int64{100, 50, 0, 0, 4, 600}), []int64{2, 3, 5})
	samePlaces(t, "forks without rain", impl.RiverShort(forks(), noRain(6)), []int64{1, 2, 3, 5})
	for _, c := range []struct {
		what  string
		reach impl.Reach
		want  []int64
	}{
		{"nothing wanted", impl.Reach{}, nil},
		{"all taken", impl.Reach{Store: 30, Take: 10, Least: 20}, nil},
		{"one short", impl.Reach{Store: 29, Take: 10, Least: 20}, []int64{0}},
		{"nothing taken", impl.Reach{Take: 1}, []int64{0}},
		{"Least not reached, nothing wanted", impl.Reach{Least: 1}, nil},
	} {
		c.reach.Down = -1
		samePlaces(t, c.what, impl.RiverShort([]impl.Reach{c.reach}, []int64{0}), c.want)
	}
	all := chain(impl.MaxReaches, impl.Reach{Take: 1})
	places := impl.RiverShort(all, noRain(impl.MaxReaches))
	for i := range all {
		if len(places) != impl.MaxReaches || places[i] != int64(i) {
			t.Fatalf("all are short: got %v", places)
		}
	}
	places[0] = 9
	samePlaces(t, "once more", impl.RiverShort(all, noRain(impl.MaxReaches))[:1], []int64{0})
}

func TestRiverShortRefused(t *testing.T) {
	for what, list := range wrongRivers() {
		samePlaces(t, what, impl.RiverShort(list, noRain(len(list))), nil)
	}
	thirsty := []impl.Reach{{Down: -1, Take: 10}}
	samePlaces(t, "thirsty", impl.RiverShort(thirsty, []int64{1}), []int64{0})
	for _, rain := range [][]int64{nil, {1, 1}, {-1}, {impl.MaxFlow + 1}, noRain(impl.MaxList + 1)} {
		samePlaces(t, "wrong rain", impl.RiverShort(thirsty, rain), nil)
	}
	over := []impl.Reach{{Down: -1, Take: 10}, {Store: impl.MaxWater, Keep: 1000, Down: -1}}
	samePlaces(t, "full", impl.RiverShort(over, noRain(2)), []int64{0})
	samePlaces(t, "over", impl.RiverShort(over, []int64{0, 1}), nil)
	samePlaces(t, "too many reaches", impl.RiverShort(chain(impl.MaxList+1, impl.Reach{Take: 1}), noRain(impl.MaxList+1)), nil)
}

func TestRiverAbove(t *testing.T) {
	for place, want := range [][]int64{{0}, {1}, {2}, {0, 1, 3}, {2, 4}, {0, 1, 3, 5}} {
		samePlaces(t, "forks", impl.RiverAbove(forks(), int64(place)), want)
	}
	for _, place := range []int64{-1, -2, 6, 7, impl.MaxReaches, 1 << 32, -1 << 32, math.MinInt64, math.MaxInt64} {
		samePlaces(t, "no such place", impl.RiverAbove(forks(), place), nil)
	}
	for what, list := range wrongRivers() {
		samePlaces(t, what, impl.RiverAbove(list, 0), nil)
		samePlaces(t, what, impl.RiverAbove(list, 3), nil)
	}
	samePlaces(t, "too many reaches", impl.RiverAbove(chain(impl.MaxList+1, impl.Reach{}), 1), nil)
	samePlaces(t, "those that pass by", impl.RiverAbove([]impl.Reach{{Down: 2}, {Down: -1}, {Down: -1}}, 1), []int64{1})
	samePlaces(t, "one that keeps all", impl.RiverAbove([]impl.Reach{{Keep: 1000, Down: 1}, {Down: -1}}, 1), []int64{0, 1})
	long := chain(impl.MaxReaches, impl.Reach{})
	for place := range int64(impl.MaxReaches) {
		above := impl.RiverAbove(long, place)
		if int64(len(above)) != place+1 || above[0] != 0 || above[place] != place {
			t.Errorf("a chain, place %d: got %v", place, above)
		}
	}
	impl.RiverAbove(long, 0)[0] = 9
	samePlaces(t, "once more", impl.RiverAbove(long, 0), []int64{0})
}

// plainAbove spreads upwards from the place until nothing more joins.
func plainAbove(list []impl.Reach, place int64) []int64 {
	above := []int64{place}
	for grown := true; grown; {
		grown = false
		for i := range list {
			if slices.Contains(above, list[i].Down) && !slices.Contains(above, int64(i)) {
				above, grown = append(above, int64(i)), true
			}
		}
	}
	slices.Sort(above)
	return above
}

func TestRiverAboveOfAnyRiver(t *testing.T) {
	random := rand.New(rand.NewSource(8))
	for range 500 {
		list := anyRiver(random, impl.MaxReaches)
		before := slices.Clone(list)
		for place := range int64(len(list)) {
			samePlaces(t, "any river", impl.RiverAbove(list, place), plainAbove(list, place))
		}
		if !slices.Equal(list, before) {
			t.Fatal("RiverAbove: what was handed in was changed")
		}
	}
}
