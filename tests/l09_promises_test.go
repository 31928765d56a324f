package tests

import (
	"math/rand"
	"slices"
	"testing"

	"loop.example/g00068/impl"
)

// oneByOne takes a surge through its steps, and tells each state and the first fault on the way.
func oneByOne(l impl.Line, openings []float64) ([]impl.Surge, int64) {
	out := impl.SurgeStart(l)
	states := []impl.Surge{out.State}
	for _, opening := range openings {
		if out.Code != impl.OK {
			break
		}
		out = impl.SurgeStep(l, out.State, opening)
		states = append(states, out.State)
	}
	return states, out.Code
}

func TestPromise19StepByStepIsAtOnce(t *testing.T) {
	random := rand.New(rand.NewSource(94))
	whole, broken := 0, 0
	for range 3000 {
		l, openings := anyLine(random), anyOpenings(random, 40)
		if len(openings) > 0 && random.Intn(20) == 0 {
			openings[random.Intn(len(openings))] = -1
		}
		states, code := oneByOne(l, openings)
		at := impl.SurgeRun(l, openings)
		if code != impl.OK {
			sameSurgeOut(t, "at once, as the first step that is refused", at, surgeFault(code))
			broken++
			continue
		}
		sameState(t, "at once", at.State, states[len(states)-1])
		if at.Code != impl.OK || t.Failed() {
			t.Fatalf("%+v by %v: code %d", l, openings, at.Code)
		}
		whole++
	}
	if min(whole, broken) < 300 {
		t.Errorf("%d whole, %d broken: too few to tell", whole, broken)
	}
}

// A run that is cut anywhere goes on by steps to where the whole run comes.
func TestPromise19RunsGoOn(t *testing.T) {
	random := rand.New(rand.NewSource(95))
	for range 500 {
		l, openings := anyLine(random), anyOpenings(random, 12)
		whole := impl.SurgeRun(l, openings)
		if whole.Code != impl.OK {
			continue
		}
		for cut := range openings {
			out := impl.SurgeRun(l, openings[:cut])
			for _, opening := range openings[cut:] {
				out = impl.SurgeStep(l, out.State, opening)
			}
			sameState(t, "from a cut", out.State, whole.State)
		}
		if t.Failed() {
			t.Fatalf("%+v by %v", l, openings)
		}
	}
}

func TestPromise19HeadsBetweenLowAndHigh(t *testing.T) {
	random := rand.New(rand.NewSource(96))
	wide := 0
	for range 3000 {
		l, openings := anyLine(random), anyOpenings(random, 40)
		run := impl.SurgeRun(l, openings)
		if run.Code != impl.OK {
			continue
		}
		states, _ := oneByOne(l, openings)
		var heads []float64
		for _, s := range states {
			heads = append(heads, s.Heads...)
		}
		if slices.Min(heads) != run.Low || slices.Max(heads) != run.High {
			t.Fatalf("%+v by %v: Low %v, High %v, heads %v", l, openings, run.Low, run.High, heads)
		}
		if run.Low < slices.Min(run.State.Heads) && run.High > slices.Max(run.State.Heads) {
			wide++
		}
	}
	if wide < 100 {
		t.Errorf("%d reach further than their last state both ways: too few to tell", wide)
	}
}

// A valve that shuts at once drives the head at it up by what SurgePeak tells.
func TestPromise20PeaksAreSeen(t *testing.T) {
	for flow := -20.0; flow <= 20; flow++ {
		l := impl.Line{Sections: 3, Wave: 8, Head: 50, Flow: flow}
		shut := impl.SurgeRun(l, []float64{0})
		sameBits(t, "the head at the valve", shut.State.Heads[3], 50+impl.SurgePeak(l, flow))
	}
}

func TestPromise20BitByBit(t *testing.T) {
	random := rand.New(rand.NewSource(97))
	for range 5000 {
		list, turn := anyRungs(random, random.Intn(7)), anyMeasure(random)
		if random.Intn(50) == 0 {
			list = anyRungs(random, impl.MaxRungs)
		}
		sameLadder(t, "any", list, turn, plainLadder(list, turn))
		wave, change := anyMeasure(random), anyMeasure(random)
		sameBits(t, "SurgePeak of any", impl.SurgePeak(impl.Line{Wave: wave}, change), times(wave, change))
		if t.Failed() {
			t.Fatalf("of %v at %v, or of %v by %v", list, turn, wave, change)
		}
	}
}
