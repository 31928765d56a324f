package tests

import (
	"math/rand"
	"slices"
	"testing"

	"loop.example/g00068/impl"
)

// sewageIn is all that sewers hold.
func sewageIn(list []impl.Sewer) int64 {
	sum := int64(0)
	for _, s := range list {
		sum += s.Store
	}
	return sum
}

// booksOf: does the water of each sewer, by itself, go on, spill, or stay?
func booksOf(list []impl.Sewer, storms [][]int64, out impl.SewerOut) bool {
	came := numbers(0, len(list))
	for _, storm := range storms {
		for place, n := range storm {
			came[place] += n
		}
	}
	for place, s := range list {
		if s.Down != -1 {
			came[s.Down] += out.Flows[place]
		}
	}
	for place, s := range list {
		if out.Flows[place] < 0 || out.Spill[place] < 0 || s.Store+came[place] != out.Flows[place]+out.Spill[place]+out.List[place].Store {
			return false
		}
	}
	return true
}

// onlyStores: is all but the Stores as it was?
func onlyStores(list []impl.Sewer, behind []impl.Sewer) bool {
	return slices.EqualFunc(list, behind, func(a impl.Sewer, b impl.Sewer) bool {
		a.Store = b.Store
		return a == b
	})
}

func TestPromise27NoWaterIsLost(t *testing.T) {
	random := rand.New(rand.NewSource(143))
	seen := map[string]int{}
	for range 500 {
		list := anySewers(random, impl.MaxReaches)
		storms := anyStorms(random, list, random.Intn(impl.MaxSteps+1))
		came, at := sewageIn(list), list
		for _, storm := range storms {
			step := impl.SewerStep(at, storm)
			if step.Code != impl.OK || sewageIn(at)+sumOf(storm) != sewageIn(step.List)+sumOf(step.Spill)+step.End {
				t.Fatalf("SewerStep of %+v by %v: got %+v", at, storm, step)
			}
			if !impl.SewersRight(step.List) || !onlyStores(list, step.List) || !booksOf(at, [][]int64{storm}, step) {
				t.Fatalf("SewerStep of %+v by %v: the books of %+v", at, storm, step)
			}
			came, at = came+sumOf(storm), step.List
		}
		run := impl.SewerRun(list, storms)
		if run.Code != impl.OK || came != sewageIn(run.List)+sumOf(run.Spill)+run.End {
			t.Fatalf("SewerRun of %+v by %v: got %+v, but %d came", list, storms, run, came)
		}
		if !slices.Equal(run.List, at) || !booksOf(list, storms, run) {
			t.Fatalf("SewerRun of %+v by %v: the books of %+v", list, storms, run)
		}
		seen["there"] += min(1, int(sewageIn(run.List)))
		seen["spilt"] += min(1, int(sumOf(run.Spill)))
		seen["at the works"] += min(1, int(run.End))
	}
	if seen["there"] < 300 || seen["spilt"] < 300 || seen["at the works"] < 300 {
		t.Errorf("%v: too few to tell", seen)
	}
}

// TestPromise27InParts: what is there behind some storms is what the others begin with.
func TestPromise27InParts(t *testing.T) {
	random := rand.New(rand.NewSource(144))
	for range 500 {
		list := anySewers(random, impl.MaxReaches)
		storms := anyStorms(random, list, 1+random.Intn(impl.MaxSteps))
		cut := random.Intn(len(storms) + 1)
		first := impl.SewerRun(list, storms[:cut])
		second := impl.SewerRun(first.List, storms[cut:])
		for place := range list {
			second.Flows[place] += first.Flows[place]
			second.Spill[place] += first.Spill[place]
		}
		second.End += first.End
		sameSewers(t, "in parts", impl.SewerRun(list, storms), second)
		if t.Failed() {
			t.Fatalf("of %+v by %v, cut at %d", list, storms, cut)
		}
	}
}

// TestPromise27SpillsAreRoomsThatAreFull: nothing spills where there is room.
func TestPromise27SpillsAreRoomsThatAreFull(t *testing.T) {
	random := rand.New(rand.NewSource(145))
	for range 1000 {
		list := anySewers(random, impl.MaxReaches)
		storm := anyStorm(random, list)
		step := impl.SewerStep(list, storm)
		for place, spilt := range step.Spill {
			if s := step.List[place]; spilt > 0 && s.Store != s.Room || step.Flows[place] > s.Flow {
				t.Fatalf("sewer %d of %+v by %v: got %+v", place, list, storm, step)
			}
		}
		samePlaces(t, "SewerSpills", impl.SewerSpills(list, [][]int64{storm}), placesOf(step.Spill))
	}
}
