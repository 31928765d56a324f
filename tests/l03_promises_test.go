package tests

import (
	"math/rand"
	"testing"

	"loop.example/g00068/impl"
)

// waterOf is all that a river holds.
func waterOf(list []impl.Reach) int64 {
	sum := int64(0)
	for _, r := range list {
		sum += r.Store
	}
	return sum
}

func sumOf(list []int64) int64 {
	sum := int64(0)
	for _, n := range list {
		sum += n
	}
	return sum
}

// calmRiver can't be refused within MaxSteps: no water that comes fills a store.
func calmRiver(random *rand.Rand) []impl.Reach {
	list := anyRiver(random, impl.MaxReaches)
	for i := range list {
		list[i].Store %= 10000
	}
	return list
}

func calmRain(random *rand.Rand, count int) []int64 {
	rain := noRain(count)
	for i := range rain {
		rain[i] = anyNumber(random, 100000)
	}
	return rain
}

func TestPromise6NoWaterIsLost(t *testing.T) {
	random := rand.New(rand.NewSource(9))
	for range 400 {
		list := calmRiver(random)
		rains, fallen := [][]int64{}, int64(0)
		for range random.Intn(impl.MaxSteps + 1) {
			rain := calmRain(random, len(list))
			rains, fallen = append(rains, rain), fallen+sumOf(rain)
			step := impl.RiverStep(list, rain)
			if step.Code != impl.OK || waterOf(list)+sumOf(rain) != waterOf(step.List)+sumOf(step.Taken)+step.Sea {
				t.Fatalf("RiverStep of %+v, rain %v: got %+v", list, rain, step)
			}
		}
		run := impl.RiverRun(list, rains)
		if run.Code != impl.OK || waterOf(list)+fallen != waterOf(run.List)+sumOf(run.Taken)+run.Sea {
			t.Fatalf("RiverRun of %+v, rains %v: got %+v", list, rains, run)
		}
		if !impl.RiverRight(run.List) {
			t.Fatalf("RiverRun of %+v: List is not right: %+v", list, run.List)
		}
	}
}

func TestPromise7LeastFirst(t *testing.T) {
	random := rand.New(rand.NewSource(10))
	for range 1000 {
		list := calmRiver(random)
		step := impl.RiverStep(list, calmRain(random, len(list)))
		if step.Code != impl.OK {
			t.Fatalf("RiverStep of %+v: got %+v", list, step)
		}
		for i, r := range list {
			taken, flows := step.Taken[i], step.Flows[i]
			if taken < 0 || taken > r.Take || flows < 0 || taken > 0 && flows < r.Least || taken < r.Take && flows > r.Least {
				t.Fatalf("reach %d of %+v: %d taken, %d flow on", i, list, taken, flows)
			}
		}
	}
}

// sameAt asks that a step did the same at a place.
func sameAt(a impl.RiverOut, b impl.RiverOut, place int64) bool {
	return a.List[place] == b.List[place] && a.Flows[place] == b.Flows[place] && a.Taken[place] == b.Taken[place]
}

func TestPromise7RainElsewhere(t *testing.T) {
	random := rand.New(rand.NewSource(11))
	for range 1000 {
		list := calmRiver(random)
		rain, other := calmRain(random, len(list)), calmRain(random, len(list))
		place := random.Int63n(int64(len(list)))
		for _, i := range impl.RiverAbove(list, place) {
			other[i] = rain[i]
		}
		a, b := impl.RiverStep(list, rain), impl.RiverStep(list, other)
		if a.Code != impl.OK || b.Code != impl.OK || !sameAt(a, b, place) {
			t.Fatalf("place %d of %+v: %+v by %v, %+v by %v", place, list, a, rain, b, other)
		}
		a, b = impl.RiverRun(list, [][]int64{rain, other}), impl.RiverRun(list, [][]int64{other, rain})
		if a.Code != impl.OK || b.Code != impl.OK || !sameAt(a, b, place) {
			t.Fatalf("place %d of %+v over two steps: %+v, %+v", place, list, a, b)
		}
	}
}

func TestPromise7RainAboveCounts(t *testing.T) {
	list := with(forks(), 3, func(r *impl.Reach) { r.Keep = 0 })
	for place := range int64(6) {
		for _, i := range impl.RiverAbove(list, place) {
			rain := noRain(6)
			rain[i] = 100000
			if sameAt(impl.RiverStep(list, noRain(6)), impl.RiverStep(list, rain), place) {
				t.Errorf("rain on reach %d changes nothing at %d", i, place)
			}
		}
	}
}
