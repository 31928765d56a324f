package tests

import (
	"math/rand"
	"slices"
	"testing"

	"loop.example/g00068/impl"
)

func TestPromise8NoWaterIsLost(t *testing.T) {
	random := rand.New(rand.NewSource(45))
	for range 600 {
		s := anyStore(random)
		full := s.Curve[len(s.Curve)-1].Volume
		before, ins, wants := s.Volume, []int64{}, []int64{}
		start := copied(s)
		for range random.Intn(40) {
			in, want := anyDayFlow(random, s), anyDayFlow(random, s)
			ins, wants = append(ins, in), append(wants, want)
			step := impl.StoreStep(s, in, want)
			if step.Code != impl.OK || s.Volume+in != step.Given+step.Spill+step.Volume || want != step.Given+step.Short {
				t.Fatalf("StoreStep of %+v, in %d, want %d: got %+v", s, in, want, step)
			}
			if min(step.Given, step.Short, step.Spill, step.Volume) < 0 || step.Volume > full || step.Spill > 0 && step.Volume < full {
				t.Fatalf("StoreStep of %+v, in %d, want %d: got %+v", s, in, want, step)
			}
			s.Volume = step.Volume
		}
		run := impl.StoreRun(start, ins, wants)
		if run.Code != impl.OK || before+sumOf(ins) != run.Given+run.Spill+run.Volume || sumOf(wants) != run.Given+run.Short {
			t.Fatalf("StoreRun of %+v, ins %v, wants %v: got %+v", start, ins, wants, run)
		}
		if run.Volume != s.Volume || run.Worst > run.Volume || run.Worst < 0 {
			t.Fatalf("StoreRun of %+v, ins %v, wants %v: got %+v", start, ins, wants, run)
		}
	}
}

// goUp asks that what is told rises with what is asked, and that each end is come to.
func goUp(t *testing.T, what string, asked []int64, tell func(int64) int64, first int64, last int64) {
	t.Helper()
	slices.Sort(asked)
	ahead := first
	for _, n := range asked {
		told := tell(n)
		if told < ahead || told > last {
			t.Fatalf("%s of %d: got %d behind %d, the last is %d", what, n, told, ahead, last)
		}
		ahead = told
	}
}

func TestPromise9LevelsAndVolumesGoUpTogether(t *testing.T) {
	random := rand.New(rand.NewSource(46))
	for range 300 {
		curve := anyCurve(random)
		first, last := curve[0], curve[len(curve)-1]
		volumes, levels := []int64{-1, last.Volume + 1}, []int64{-1, last.Level + 1}
		for range 60 {
			volume, level := random.Int63n(last.Volume+1), random.Int63n(last.Level+1)
			volumes = append(volumes, volume, volume+1)
			levels = append(levels, level, level+1)
		}
		for _, m := range curve {
			volumes, levels = append(volumes, m.Volume-1, m.Volume, m.Volume+1), append(levels, m.Level-1, m.Level, m.Level+1)
		}
		goUp(t, "LevelAt", volumes, func(n int64) int64 { return impl.LevelAt(curve, n) }, first.Level, last.Level)
		goUp(t, "VolumeAt", levels, func(n int64) int64 { return impl.VolumeAt(curve, n) }, first.Volume, last.Volume)
		for _, m := range curve {
			if impl.LevelAt(curve, m.Volume) != m.Level || impl.VolumeAt(curve, m.Level) != m.Volume {
				t.Fatalf("at the mark %+v: level %d, volume %d", m, impl.LevelAt(curve, m.Volume), impl.VolumeAt(curve, m.Level))
			}
		}
		for _, volume := range volumes {
			if there := impl.VolumeAt(curve, impl.LevelAt(curve, volume)); volume >= first.Volume && there > volume {
				t.Fatalf("%+v: from the volume %d to its level and back: %d", curve, volume, there)
			}
		}
	}
}

// open is a store whose rules give all that is wanted.
func open(s impl.Store) impl.Store {
	s.Rules = []impl.Rule{{From: 0, Give: 1000}}
	return s
}

func TestPromise10YieldIsGivenAndOneMoreIsNot(t *testing.T) {
	random := rand.New(rand.NewSource(47))
	most, less := 0, 0
	for range 2000 {
		s := anyStore(random)
		ins := make([]int64, 1+random.Intn(60))
		for i := range ins {
			ins[i] = anyDayFlow(random, s)
		}
		yield := impl.StoreYield(s, ins)
		if yield < 0 || yield > impl.MaxFlow {
			t.Fatalf("StoreYield of %+v, ins %v: got %d", s, ins, yield)
		}
		if run := impl.StoreRun(open(s), ins, slices.Repeat([]int64{yield}, len(ins))); run.Code != impl.OK || run.Short != 0 {
			t.Fatalf("StoreYield of %+v, ins %v: got %d, and is short: %+v", s, ins, yield, run)
		}
		if yield == impl.MaxFlow {
			most++
			continue
		}
		less++
		if run := impl.StoreRun(open(s), ins, slices.Repeat([]int64{yield + 1}, len(ins))); run.Code != impl.OK || run.Short == 0 {
			t.Fatalf("StoreYield of %+v, ins %v: got %d, and one more is given: %+v", s, ins, yield, run)
		}
	}
	if most < 50 || less < 500 {
		t.Errorf("%d at MaxFlow, %d below: too few to tell", most, less)
	}
}
