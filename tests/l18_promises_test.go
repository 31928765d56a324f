package tests

import (
	"math/rand"
	"slices"
	"testing"

	"loop.example/g00068/impl"
)

// TestPromise32NoPicksAreWorthMore tries all picks of few Assets, one by one by their bits, by RenewOf.
func TestPromise32NoPicksAreWorthMore(t *testing.T) {
	random := rand.New(rand.NewSource(184))
	for range 300 {
		list := anyAssets(random, 9)
		budget := anyBudget(random, list)
		best := impl.RenewBest(list, budget)
		sameRenewal(t, "RenewOf of the best", impl.RenewOf(list, budget, best.Picks), best)
		as := 0
		for bits := range 1 << len(list) {
			var picks []int64
			for place := range list {
				if bits>>place&1 == 1 {
					picks = append(picks, int64(place))
				}
			}
			other := impl.RenewOf(list, budget, picks)
			if other.Worth > best.Worth {
				t.Fatalf("RenewBest of %+v by %d: got %+v, but %+v is worth more", list, budget, best, other)
			}
			if slices.Equal(picks, best.Picks) {
				as++
			}
		}
		if best.Code != impl.OK || as != 1 || best.Cost > budget || t.Failed() {
			t.Fatalf("RenewBest of %+v by %d: got %+v", list, budget, best)
		}
	}
}

// TestPromise32OfMany: where all picks are too many to try, none got by leaving some and taking others is better.
func TestPromise32OfMany(t *testing.T) {
	random := rand.New(rand.NewSource(185))
	for range 60 {
		list := anyAssets(random, impl.MaxAssets)
		budget := anyBudget(random, list)
		best := impl.RenewBest(list, budget)
		for range 200 {
			picks := anyPlaces(random, int64(len(list)), 1+random.Intn(6))
			for _, place := range best.Picks {
				if !slices.Contains(picks, place) && random.Intn(4) > 0 {
					picks = append(picks, place)
				}
			}
			slices.Sort(picks)
			if other := impl.RenewOf(list, budget, picks); other.Worth > best.Worth {
				t.Fatalf("RenewBest of %+v by %d: got %+v, but %+v is worth more", list, budget, best, other)
			}
		}
	}
}

// TestPromise32TableShowsIt: each number of a table is what the best of the rest is worth within it.
func TestPromise32TableShowsIt(t *testing.T) {
	random := rand.New(rand.NewSource(186))
	for range 20 {
		list := anyAssets(random, impl.MaxAssets)
		budget := anyBudget(random, list)
		table := impl.RenewTable(list, budget)
		if len(table) != len(list)+1 || !impl.RenewTableRight(list, budget, table) {
			t.Fatalf("RenewTable of %+v by %d: its own table is not right", list, budget)
		}
		for place, row := range table {
			if int64(len(row)) != budget+1 {
				t.Fatalf("RenewTable of %+v by %d: row %d has %d numbers", list, budget, place, len(row))
			}
			left := random.Int63n(budget + 1)
			if got := impl.RenewBest(list[place:], left).Worth; got != row[left] {
				t.Fatalf("RenewTable of %+v by %d: %d at %d of row %d, but the best is worth %d", list, budget, row[left], left, place, got)
			}
		}
		table[random.Intn(len(table))][random.Int63n(budget+1)]++
		if impl.RenewTableRight(list, budget, table) {
			t.Fatalf("RenewTableRight of %+v by %d: another table is right", list, budget)
		}
	}
}

// TestPromise32NothingTwice: over years nothing is renewed twice, each year keeps to its budget, and what a year
// leaves could not have been worth more in it.
func TestPromise32NothingTwice(t *testing.T) {
	random := rand.New(rand.NewSource(187))
	for range 300 {
		list := anyAssets(random, impl.MaxAssets)
		budgets := anyBudgets(random, list)
		years := impl.RenewYears(list, budgets)
		if len(years) != len(budgets) {
			t.Fatalf("RenewYears of %+v by %v: got %v", list, budgets, years)
		}
		done := map[int64]bool{}
		for year, picks := range years {
			rest, places := restOf(list, done)
			best := impl.RenewBest(rest, budgets[year])
			for i, place := range picks {
				if done[place] || len(best.Picks) != len(picks) || places[best.Picks[i]] != place {
					t.Fatalf("RenewYears of %+v by %v: got %v, not as it should be in year %d", list, budgets, years, year)
				}
				done[place] = true
			}
			if out := impl.RenewOf(list, budgets[year], picks); out.Code != impl.OK || out.Worth != best.Worth {
				t.Fatalf("RenewYears of %+v by %v: got %v, of which year %d is %+v", list, budgets, years, year, out)
			}
		}
	}
}

// restOf are the Assets that are not done, and their places.
func restOf(list []impl.Asset, done map[int64]bool) ([]impl.Asset, []int64) {
	var rest []impl.Asset
	var places []int64
	for place, a := range list {
		if !done[int64(place)] {
			rest, places = append(rest, a), append(places, int64(place))
		}
	}
	return rest, places
}
