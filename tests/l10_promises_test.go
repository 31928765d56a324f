package tests

import (
	"math/rand"
	"slices"
	"testing"

	"loop.example/g00068/impl"
)

func waterIn(list []impl.Parcel) int64 {
	water := int64(0)
	for _, p := range list {
		water += p.Water
	}
	return water
}

func gramsIn(list []impl.Parcel) int64 {
	grams := int64(0)
	for _, p := range list {
		grams += p.Grams
	}
	return grams
}

// daily are parcels of which each came a day behind the one ahead of it: so their days tell them apart.
func daily(list []impl.Parcel, from int64) []impl.Parcel {
	for i := range list {
		list[i].Born = from + int64(i)
	}
	return list
}

// together are parcels in the order in which they came, the parts of one put together again.
func together(list []impl.Parcel) []impl.Parcel {
	var whole []impl.Parcel
	for _, p := range list {
		if last := len(whole) - 1; last >= 0 && whole[last].Born == p.Born {
			whole[last].Water += p.Water
			whole[last].Grams += p.Grams
			continue
		}
		whole = append(whole, p)
	}
	return whole
}

func oldestFirst(list []impl.Parcel) []impl.Parcel {
	order := slices.Clone(list)
	slices.Reverse(order)
	return order
}

func lightly(list []impl.Parcel) []impl.Parcel {
	for i := range list {
		list[i].Grams = 0
	}
	return list
}

// anyDaily is a tube and what is pushed into it, each with a day of its own.
func anyDaily(random *rand.Rand) (impl.Tube, []impl.Parcel) {
	water := anyWater(random)
	old := daily(oldestFirst(anyTube(random, water).List), 0)
	list := anyParcels(random, random.Intn(20), []int64{water, anyWater(random)}[random.Intn(2)])
	return tube(oldestFirst(old)...), daily(list, impl.MaxParcels)
}

func TestPromise21AsMuchGoesOutAsComesIn(t *testing.T) {
	random := rand.New(rand.NewSource(105))
	ran := 0
	for range 3000 {
		into, list := anyDaily(random)
		run := impl.TubeRun(into, list, anyNumber(random, 1000))
		if run.Code != impl.OK {
			continue
		}
		if waterIn(run.Out) != waterIn(list) || waterIn(run.Tube.List) != into.Room || !impl.TubeRight(run.Tube) {
			t.Fatalf("%+v by %+v: got %+v", into, list, run)
		}
		for _, p := range run.Out {
			if !impl.TubeRight(tube(p)) {
				t.Fatalf("%+v by %+v: a parcel %+v went out", into, list, p)
			}
		}
		ran++
	}
	if ran < 1500 {
		t.Errorf("%d ran: too few to tell", ran)
	}
}

func TestPromise21InTheOrderInWhichItCame(t *testing.T) {
	random := rand.New(rand.NewSource(106))
	parted := 0
	for range 3000 {
		into, list := anyDaily(random)
		run := impl.TubeRun(into, list, anyNumber(random, 1000))
		if run.Code != impl.OK {
			continue
		}
		came := slices.Concat(oldestFirst(into.List), list)
		is := slices.Concat(run.Out, oldestFirst(run.Tube.List))
		if len(is) > len(came) {
			parted++
		}
		if !slices.Equal(lightly(together(is)), lightly(came)) {
			t.Fatalf("%+v by %+v: got %+v", into, list, run)
		}
	}
	if parted < 500 {
		t.Errorf("%d came apart: too few to tell", parted)
	}
}

// Where nothing decays, each parcel's own grams are found again.
func TestPromise21NoGramsAreLost(t *testing.T) {
	random := rand.New(rand.NewSource(107))
	parted := 0
	for range 3000 {
		into, list := anyDaily(random)
		run := impl.TubeRun(into, list, 0)
		if run.Code != impl.OK {
			continue
		}
		came := slices.Concat(oldestFirst(into.List), list)
		is := slices.Concat(run.Out, oldestFirst(run.Tube.List))
		if !slices.Equal(together(is), came) || gramsIn(is) != gramsIn(came) {
			t.Fatalf("%+v by %+v: got %+v", into, list, run)
		}
		if len(is) > len(came) {
			parted++
		}
	}
	if parted < 500 {
		t.Errorf("%d came apart: too few to tell", parted)
	}
}

// All that is lost was in the tube, and decayed there behind a push.
func TestPromise21GramsAreLostByDecayAlone(t *testing.T) {
	random := rand.New(rand.NewSource(108))
	lossy := 0
	for range 2000 {
		into, list := anyDaily(random)
		mill := anyNumber(random, 1000)
		run := impl.TubeRun(into, list, mill)
		if run.Code != impl.OK {
			continue
		}
		at, lost := into, int64(0)
		for _, p := range list {
			at = impl.TubePush(at, p).Tube
			for _, q := range at.List {
				lost += share(q.Grams, mill, 1000)
			}
			at = impl.TubeDecay(at, mill)
		}
		if gramsIn(into.List)+gramsIn(list) != gramsIn(run.Out)+gramsIn(run.Tube.List)+lost {
			t.Fatalf("%+v by %+v and %d: got %+v, lost %d", into, list, mill, run, lost)
		}
		if lost > 0 {
			lossy++
		}
	}
	if lossy < 500 {
		t.Errorf("%d lost grams: too few to tell", lossy)
	}
}
