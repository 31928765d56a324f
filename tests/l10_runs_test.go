package tests

import (
	"math/rand"
	"slices"
	"testing"

	"loop.example/g00068/impl"
)

func sameTubeRun(t *testing.T, what string, into impl.Tube, list []impl.Parcel, mill int64, want impl.TubeOut) {
	t.Helper()
	given, pushed := impl.Tube{Room: into.Room, List: roomy(into.List)}, roomy(list)
	sameTubeOut(t, "TubeRun, "+what, impl.TubeRun(given, pushed, mill), want)
	if !untouched(given.List, into.List) || !untouched(pushed, list) {
		t.Errorf("TubeRun, %s: what was handed in was changed", what)
	}
}

// plainTubeRun asks for a tube and a mill that are right; what is pushed may be wrong.
func plainTubeRun(into impl.Tube, list []impl.Parcel, mill int64) impl.TubeOut {
	run := impl.TubeOut{Tube: into}
	for _, p := range list {
		if p.Water < 1 || p.Water > impl.MaxFlow || p.Grams < 0 || p.Grams > impl.MaxGrams || p.Born < 0 || p.Born > impl.MaxDays {
			return tubeFault(impl.ErrForm)
		}
		push := plainPush(run.Tube, p)
		if push.Code != impl.OK {
			return push
		}
		run.Tube, run.Out = plainDecay(push.Tube, mill), append(run.Out, push.Out...)
	}
	return run
}

func TestTubeRunByHand(t *testing.T) {
	two := []impl.Parcel{parcel(4, 2, 9), parcel(3, 6, 10)}
	// Behind the first push 60 grams come down to 30: half of these go with the second one.
	sameTubeRun(t, "half decays twice", mainTube(), two, 500, impl.TubeOut{
		Tube: tube(parcel(3, 3, 10), parcel(4, 1, 9), parcel(3, 8, 5)),
		Out:  []impl.Parcel{parcel(4, 8, 1), parcel(3, 15, 5)},
	})
	sameTubeRun(t, "nothing decays", mainTube(), two, 0, impl.TubeOut{
		Tube: tube(parcel(3, 6, 10), parcel(4, 2, 9), parcel(3, 30, 5)),
		Out:  []impl.Parcel{parcel(4, 8, 1), parcel(3, 30, 5)},
	})
	sameTubeRun(t, "all decays", mainTube(), two, 1000, impl.TubeOut{
		Tube: tube(parcel(3, 0, 10), parcel(4, 0, 9), parcel(3, 0, 5)),
		Out:  []impl.Parcel{parcel(4, 8, 1), parcel(3, 0, 5)},
	})
	sameTubeRun(t, "one alone", mainTube(), two[:1], 500, impl.TubeOut{
		Tube: tube(parcel(4, 1, 9), parcel(6, 30, 5)),
		Out:  []impl.Parcel{parcel(4, 8, 1)},
	})
	sameTubeRun(t, "no push, no decay", mainTube(), nil, 1000, impl.TubeOut{Tube: mainTube()})
	sameTubeRun(t, "an empty list", mainTube(), []impl.Parcel{}, 500, impl.TubeOut{Tube: mainTube()})
	// Of 9 grams 3 go with what found no room, and of the 6 that stay 3 decay.
	sameTubeRun(t, "more than there is room for, twice", tube(parcel(10, 1, 0)), []impl.Parcel{parcel(15, 9, 1), parcel(15, 15, 2)}, 500, impl.TubeOut{
		Tube: tube(parcel(10, 5, 2)),
		Out:  []impl.Parcel{parcel(10, 1, 0), parcel(5, 3, 1), parcel(10, 3, 1), parcel(5, 5, 2)},
	})
}

func TestTubeRunSize(t *testing.T) {
	steady := tube(manyParcels(impl.MaxParcels, parcel(1, 1, 1))...)
	sameTubeRun(t, "MaxSteps", steady, manyParcels(impl.MaxSteps, parcel(1, 2, 2)), 0, impl.TubeOut{
		Tube: tube(manyParcels(impl.MaxParcels, parcel(1, 2, 2))...),
		Out:  steady.List,
	})
	for _, count := range []int{impl.MaxSteps + 1, impl.MaxList, impl.MaxList + 1} {
		long, bad := manyParcels(count, parcel(1, 2, 2)), make([]impl.Parcel, count)
		sameTubeRun(t, "too many", steady, long, 0, tubeFault(impl.ErrSize))
		sameTubeRun(t, "too many that are wrong", steady, bad, 0, tubeFault(impl.ErrSize))
		sameTubeRun(t, "too many by a wrong mill", steady, long, 1001, tubeFault(impl.ErrSize))
		sameTubeRun(t, "too many for no tube", impl.Tube{}, long, 0, tubeFault(impl.ErrSize))
		sameTubeRun(t, "too many for too little room", fullTube(), long, 0, tubeFault(impl.ErrSize))
		sameTubeRun(t, "too many, and all else is wrong", impl.Tube{}, bad, -1, tubeFault(impl.ErrSize))
	}
	sameTubeRun(t, "a tube of more than MaxList", tube(manyParcels(impl.MaxList+1, parcel(1, 1, 1))...), nil, 0, tubeFault(impl.ErrForm))
}

func TestTubeRunForm(t *testing.T) {
	one, over := []impl.Parcel{parcel(1, 1, 1)}, []impl.Parcel{parcel(1, 1, 9)}
	for what, mill := range beside(0, 1000) {
		sameTubeRun(t, "a mill "+what, mainTube(), one, mill, tubeFault(impl.ErrForm))
		sameTubeRun(t, "a mill "+what+", nothing pushed", mainTube(), nil, mill, tubeFault(impl.ErrForm))
		sameTubeRun(t, "a mill "+what+", a full tube", fullTube(), over, mill, tubeFault(impl.ErrForm))
	}
	for what, wrong := range wrongTubes() {
		sameTubeRun(t, what, wrong, one, 500, tubeFault(impl.ErrForm))
		sameTubeRun(t, what+", nothing pushed", wrong, nil, 500, tubeFault(impl.ErrForm))
	}
	good := parcel(1, 1, 1)
	for what, bad := range wrongParcels() {
		sameTubeRun(t, what+", alone", mainTube(), []impl.Parcel{bad}, 500, tubeFault(impl.ErrForm))
		sameTubeRun(t, what+", first", mainTube(), []impl.Parcel{bad, good, good}, 500, tubeFault(impl.ErrForm))
		sameTubeRun(t, what+", last", mainTube(), []impl.Parcel{good, good, bad}, 500, tubeFault(impl.ErrForm))
	}
	for _, p := range rightParcels() {
		if got := impl.TubeRun(mainTube(), []impl.Parcel{p}, 1000); got.Code != impl.OK {
			t.Errorf("TubeRun by %+v: got %+v", p, got)
		}
	}
}

// The first fault on the way refuses, whatever comes behind it.
func TestTubeRunFirstFault(t *testing.T) {
	good, bad := parcel(1, 1, 9), impl.Parcel{}
	sameTubeRun(t, "too little room, then a wrong one", fullTube(), []impl.Parcel{good, bad}, 0, tubeFault(impl.ErrOver))
	sameTubeRun(t, "a wrong one, then too little room", fullTube(), []impl.Parcel{bad, good}, 0, tubeFault(impl.ErrForm))
	// The first one drives out the last parcel whole, the second one a part of the next.
	late := tube(slices.Concat(manyParcels(impl.MaxParcels-2, parcel(1, 3, 4)), []impl.Parcel{parcel(2, 5, 3), parcel(1, 5, 2)})...)
	sameTubeRun(t, "room, then too little", late, []impl.Parcel{good, good}, 0, tubeFault(impl.ErrOver))
	sameTubeRun(t, "room, too little, then a wrong one", late, []impl.Parcel{good, good, bad}, 0, tubeFault(impl.ErrOver))
	sameTubeRun(t, "room, then a wrong one", late, []impl.Parcel{good, bad, good}, 0, tubeFault(impl.ErrForm))
	wide := tube(parcel(impl.MaxFlow, 0, 0))
	most := manyParcels(impl.MaxParcels-1, good)
	sameTubeRun(t, "as many as there is room for", wide, most, 0, plainTubeRun(wide, most, 0))
	if got := impl.TubeRun(wide, most, 0); got.Code != impl.OK || len(got.Tube.List) != impl.MaxParcels {
		t.Errorf("as many as there is room for: got %+v", got)
	}
	sameTubeRun(t, "one more", wide, append(most, good), 0, tubeFault(impl.ErrOver))
	sameTubeRun(t, "a wrong one instead", wide, append(most, bad), 0, tubeFault(impl.ErrForm))
}

func TestTubeRunAny(t *testing.T) {
	random := rand.New(rand.NewSource(103))
	seen := map[int64]int{}
	for range 3000 {
		into, mill := anyTube(random, anyWater(random)), anyNumber(random, 1000)
		list := anyParcels(random, random.Intn(12), anyWater(random))
		if random.Intn(20) == 0 {
			list = anyParcels(random, impl.MaxSteps, anyWater(random))
		}
		if len(list) > 0 && random.Intn(4) == 0 {
			wrong := []impl.Parcel{{}, parcel(impl.MaxFlow+1, 1, 1), parcel(1, -1, 1), parcel(1, 1, impl.MaxDays+1)}
			list[random.Intn(len(list))] = wrong[random.Intn(len(wrong))]
		}
		want := plainTubeRun(into, list, mill)
		sameTubeRun(t, "any", into, list, mill, want)
		if t.Failed() {
			t.Fatalf("%+v by %+v and %d", into, list, mill)
		}
		seen[want.Code]++
	}
	for _, code := range []int64{impl.OK, impl.ErrForm, impl.ErrOver} {
		if seen[code] < 100 {
			t.Errorf("code %d: seen %d times, too few to tell", code, seen[code])
		}
	}
}

// A run is its pushes, each with its decay behind it; pieces of a run are the run.
func TestTubeRunIsPushesAndDecays(t *testing.T) {
	random := rand.New(rand.NewSource(104))
	for range 1000 {
		into, mill := anyTube(random, anyWater(random)), anyNumber(random, 1000)
		list := anyParcels(random, 1+random.Intn(10), anyWater(random))
		whole := impl.TubeRun(into, list, mill)
		if whole.Code != impl.OK {
			continue
		}
		at, out := into, []impl.Parcel(nil)
		for _, p := range list {
			push := impl.TubePush(at, p)
			at, out = impl.TubeDecay(push.Tube, mill), append(out, push.Out...)
		}
		sameTubeOut(t, "one by one", whole, impl.TubeOut{Tube: at, Out: out})
		cut := random.Intn(len(list) + 1)
		first := impl.TubeRun(into, list[:cut], mill)
		second := impl.TubeRun(first.Tube, list[cut:], mill)
		sameTubeOut(t, "in two pieces", whole, impl.TubeOut{Tube: second.Tube, Out: slices.Concat(first.Out, second.Out)})
	}
}
