package tests

import (
	"math"
	"math/rand"
	"slices"
	"testing"

	"loop.example/g00068/impl"
)

// shutting is a line without drag whose valve, once shut, sends the head up by 20 and back.
func shutting() impl.Line {
	return impl.Line{Sections: 2, Wave: 10, Head: 100, Flow: 2}
}

// shutStates are what comes of a start by one step behind the other with the valve shut.
func shutStates() []impl.Surge {
	return []impl.Surge{
		surge([]float64{100, 100, 100}, []float64{2, 2, 2}),
		surge([]float64{100, 100, 120}, []float64{2, 2, 0}),
		surge([]float64{100, 120, 120}, []float64{2, 0, 0}),
		surge([]float64{100, 120, 120}, []float64{-2, 0, 0}),
		surge([]float64{100, 100, 120}, []float64{-2, -2, 0}),
		surge([]float64{100, 100, 80}, []float64{-2, -2, 0}),
	}
}

func TestSurgeStepByHand(t *testing.T) {
	states := shutStates()
	for i, high := range []float64{120, 120, 120, 120, 100} {
		low := []float64{100, 100, 100, 100, 80}[i]
		sameSurgeStep(t, "shut, step "+decimal(int64(i)), shutting(), states[i], 0, surged(states[i+1], high, low))
	}
	// 1/64 of the last head is what flows: all stays as it is.
	flowing := impl.Line{Sections: 2, Wave: 10, Drag: 1, Head: 136, Flow: 2}
	steady := surge([]float64{136, 132, 128}, []float64{2, 2, 2})
	sameSurgeStep(t, "steady", flowing, steady, 1.0/64, surged(steady, 136, 128))
	back := impl.Line{Sections: 2, Wave: 10, Drag: 1, Head: 100, Flow: 2}
	sameSurgeStep(t, "back", back, surge(repeated(100, 3), repeated(-2, 3)), 0,
		surged(surge([]float64{100, 100, 84}, []float64{-1.6, -1.6, 0}), 100, 84))
}

// Each place has a head and a flow of its own here, so that none can be taken for another one.
func TestSurgeStepByEachPlace(t *testing.T) {
	l := impl.Line{Sections: 3, Wave: 2, Drag: 1, Head: 50, Flow: 9}
	s := surge([]float64{10, 20, 40, 80}, []float64{1, 2, 3, 4})
	// up from 0 to 2: 11, 20, 37; down from 1 to 3: 20, 43, 88.
	sameSurgeStep(t, "open by 1", l, s, 1,
		surged(surge([]float64{50, 27, 54, 37.0 / 3}, []float64{15, -8, -17, 37.0 / 3}), 54, 37.0/3))
	sameSurgeStep(t, "open by a half", l, s, 0.5,
		surged(surge([]float64{50, 27, 54, 18.5}, []float64{15, -8, -17, 9.25}), 54, 18.5))
	turned := surge([]float64{10, 20, 40, 80}, []float64{-1, -2, -3, -4})
	// up: 9, 20, 43; down: 20, 37, 72.
	sameSurgeStep(t, "turned", l, turned, 1,
		surged(surge([]float64{50, 23, 46, 43.0 / 3}, []float64{15, -7, -13, 43.0 / 3}), 50, 43.0/3))
}

func TestSurgeStepOfOnePiece(t *testing.T) {
	l := impl.Line{Sections: 1, Wave: 4, Drag: 0.5, Head: 30, Flow: 1}
	s := surge([]float64{20, 10}, []float64{2, 6})
	// down: 10 less 24 and 18; up: 20 and 8 less 2.
	sameSurgeStep(t, "both ends", l, s, 0.25, surged(surge([]float64{30, 13}, []float64{6.5, 3.25}), 30, 13))
	sameSurgeStep(t, "Flow does not count", lineWith(func(l *impl.Line) { l.Sections, l.Wave, l.Drag, l.Head, l.Flow = 1, 4, 0.5, 30, -edge }), s, 0.25,
		surged(surge([]float64{30, 13}, []float64{6.5, 3.25}), 30, 13))
}

func TestSurgeStepNoughts(t *testing.T) {
	below := minusNought()
	l := impl.Line{Sections: 1, Wave: 10}
	sameSurgeStep(t, "a flow below through a shut valve", l, surge([]float64{0, 0}, []float64{-1, -1}), 0,
		surged(surge([]float64{0, -10}, []float64{-1, below}), 0, -10))
	sameSurgeStep(t, "an opening below", l, surge([]float64{1, 1}, []float64{0, 0}), below,
		surged(surge([]float64{0, 1}, []float64{-0.1, below}), 1, 0))
	l.Head = below
	sameSurgeStep(t, "the first of noughts", l, surge([]float64{0, 0}, []float64{0, 0}), 0,
		surged(surge([]float64{below, 0}, []float64{below, 0}), below, below))
	l.Head = 0
	// Both products are noughts below, and the head ahead of them is one.
	sameSurgeStep(t, "a head below", l, surge([]float64{below, 0}, []float64{below, 0}), 0,
		surged(surge([]float64{0, 0}, []float64{0, 0}), 0, 0))
	l.Wave = 1
	sameSurgeStep(t, "a head that goes under", l, surge([]float64{-tiny, 0}, []float64{0, 0}), 1,
		surged(surge([]float64{0, below}, []float64{0, below}), 0, 0))
}

func TestSurgeStepEachByItself(t *testing.T) {
	up, down := 1+0x1p-30, 1-0x1p-30
	// The product of both is 1 as a float, and just below 1 else.
	l := impl.Line{Sections: 1, Wave: up, Head: -1}
	sameSurgeStep(t, "up and down", l, surge([]float64{-1, 0}, []float64{down, down}), 0,
		surged(surge([]float64{-1, 0}, []float64{0, 0}), 0, -1))
	l = impl.Line{Sections: 1, Wave: up, Head: 0}
	sameSurgeStep(t, "the opening", l, surge([]float64{2, 0}, []float64{0, 0}), down,
		surged(surge([]float64{0, 1}, []float64{0, down}), 1, 0))
	l = impl.Line{Sections: 1, Wave: 1, Drag: tiny, Head: 0}
	// As with a start: 3 of the least, not 2; the wave itself is taken off by the head.
	sameSurgeStep(t, "Drag times the flow first", l, surge([]float64{-1.5, 1.5}, []float64{1.5, 1.5}), 0,
		surged(surge([]float64{0, -3 * tiny}, []float64{-3 * tiny, minusNought()}), 0, -3*tiny))
	// Half of the least is lost, but two of it come of the least by a half.
	l = impl.Line{Sections: 2, Wave: 0.25}
	sameSurgeStep(t, "2 times Wave first", l, surge([]float64{tiny, 0, 0}, []float64{0, 0, 0}), 0,
		surged(surge([]float64{0, 0, 0}, []float64{0, 2 * tiny, 0}), 0, 0))
	// The head is lost beside the wave; it would not be, had the fall been taken off that first.
	l = impl.Line{Sections: 1, Wave: edge, Drag: 1, Head: edge}
	sameSurgeStep(t, "the head and the wave first", l, surge([]float64{1, 1}, []float64{edge, edge}), 0,
		surged(surge([]float64{edge, 0}, []float64{1, 0}), edge, 0))
}

// stateFaults are states of two pieces that are not right.
func stateFaults() map[string]impl.Surge {
	full := surge([]float64{100, 96, 92}, []float64{2, 2, 2})
	wrong := map[string]impl.Surge{
		"none":            {},
		"a head too few":  surge(full.Heads[:2], full.Flows),
		"a flow too few":  surge(full.Heads, full.Flows[:2]),
		"both too few":    surge(full.Heads[:2], full.Flows[:2]),
		"a head too many": surge(repeated(1, 4), full.Flows),
		"a flow too many": surge(full.Heads, repeated(1, 4)),
		"both too many":   surge(repeated(1, 4), repeated(1, 4)),
		"no heads":        surge(nil, full.Flows),
		"no flows":        surge(full.Heads, nil),
		"far too many":    surge(repeated(1, impl.MaxList+1), repeated(1, impl.MaxList+1)),
	}
	for place := range 3 {
		for i, x := range noMeasures() {
			heads, flows := copiedSurge(full), copiedSurge(full)
			heads.Heads[place], flows.Flows[place] = x, x
			wrong["head "+decimal(int64(place))+" no measure "+decimal(int64(i))] = heads
			wrong["flow "+decimal(int64(place))+" no measure "+decimal(int64(i))] = flows
		}
	}
	return wrong
}

func TestSurgeStepForm(t *testing.T) {
	form := surgeFault(impl.ErrForm)
	l, s := lineWith(func(*impl.Line) {}), surge([]float64{100, 96, 92}, []float64{2, 2, 2})
	over := surge([]float64{100, 96, 92}, []float64{2, edge, 2})
	sameSurgeStep(t, "too great, alone", l, over, 0, surgeFault(impl.ErrOver))
	for what, wrong := range wrongLines() {
		sameSurgeStep(t, what, wrong, s, 0, form)
		sameSurgeStep(t, what+", too great", wrong, over, 0, form)
		sameSurgeStep(t, what+", no state", wrong, impl.Surge{}, 0, form)
		sameSurgeStep(t, what+", a wrong opening", wrong, s, -1, form)
	}
	for what, wrong := range stateFaults() {
		sameSurgeStep(t, what, l, wrong, 0, form)
		sameSurgeStep(t, what+", a wrong opening", l, wrong, -1, form)
	}
	for _, x := range append(noMeasures(), -tiny, -1, -edge) {
		sameSurgeStep(t, "a wrong opening", l, s, x, form)
		sameSurgeStep(t, "a wrong opening, too great", l, over, x, form)
	}
	one := lineWith(func(l *impl.Line) { l.Sections = 1 })
	sameSurgeStep(t, "places of two pieces", one, s, 0, form)
	none := impl.Line{Wave: 10, Drag: 1, Head: 100, Flow: 2}
	sameSurgeStep(t, "one place, no piece", none, surge([]float64{100}, []float64{2}), 0, form)
	less := lineWith(func(l *impl.Line) { l.Sections = -1 })
	sameSurgeStep(t, "no place", less, impl.Surge{}, 0, form)
}

// Each of the pairs below is at the edge first, and just beyond it then.
func TestSurgeStepOverAtTheEnds(t *testing.T) {
	still := []float64{0, 0}
	l := impl.Line{Sections: 1, Wave: 1, Head: edge}
	sameSurgeStep(t, "the first flow", l, surge([]float64{0, 0}, still), 0, surged(surge([]float64{edge, 0}, []float64{edge, 0}), edge, 0))
	sameSurgeStep(t, "the first flow, beyond", l, surge([]float64{0, -justOver}, still), 0, surgeFault(impl.ErrOver))
	l.Head = -edge
	sameSurgeStep(t, "the first flow, below", l, surge([]float64{0, 0}, still), 0, surged(surge([]float64{-edge, 0}, []float64{-edge, 0}), 0, -edge))
	sameSurgeStep(t, "the first flow, beyond below", l, surge([]float64{0, justOver}, still), 0, surgeFault(impl.ErrOver))
	l.Head = 0
	for _, sign := range []float64{1, -1} {
		at := surge([]float64{sign * edge, 0}, still)
		sameSurgeStep(t, "the last head", l, at, 0, surged(surge([]float64{0, sign * edge}, []float64{0, sign * 0}), max(0, sign*edge), min(0, sign*edge)))
		beyond := surge([]float64{sign * edge, 0}, []float64{sign * justOver, 0})
		sameSurgeStep(t, "the last head, beyond", l, beyond, 0, surgeFault(impl.ErrOver))
		sameSurgeStep(t, "the last head, beyond but for the opening", l, beyond, 1, plainSurgeStep(l, beyond, 1))
	}
	l.Wave = tiny
	for _, sign := range []float64{1, -1} {
		at := surge([]float64{sign, 0}, still)
		sameSurgeStep(t, "the last flow", l, at, edge, surged(surge([]float64{0, sign}, []float64{0, sign * edge}), max(0, sign), min(0, sign)))
		beyond := surge([]float64{sign * (1 + 0x1p-52), 0}, still)
		sameSurgeStep(t, "the last flow, beyond", l, beyond, edge, surgeFault(impl.ErrOver))
	}
	l.Head = 1
	sameSurgeStep(t, "a flow without end", l, surge([]float64{0, 0}, still), 0, surgeFault(impl.ErrOver))
}

func TestSurgeStepOverBetween(t *testing.T) {
	l := impl.Line{Sections: 2, Wave: 1}
	for _, sign := range []float64{1, -1} {
		at, beyond := sign*edge, sign*justOver
		s := surge([]float64{at, 0, at}, []float64{0, 0, 0})
		sameSurgeStep(t, "a head", l, s, 0, surged(surge([]float64{0, at, 0}, []float64{0, 0, 0}), max(0, at), min(0, at)))
		s = surge([]float64{at, 0, at}, []float64{beyond, 0, -beyond})
		sameSurgeStep(t, "a head, beyond", l, s, 0, surgeFault(impl.ErrOver))
	}
	l.Wave = 0.5
	for _, sign := range []float64{1, -1} {
		at := sign * edge
		s := surge([]float64{at, 0, 0}, []float64{0, 0, 0})
		sameSurgeStep(t, "a flow", l, s, 0, surged(surge([]float64{0, at / 2, 0}, []float64{0, at, 0}), max(0, at/2), min(0, at/2)))
		s = surge([]float64{at, 0, -sign * justOver}, []float64{0, 0, 0})
		sameSurgeStep(t, "a flow, beyond", l, s, 0, surgeFault(impl.ErrOver))
	}
}

func TestSurgeStepAtItsLimits(t *testing.T) {
	long := impl.Line{Sections: impl.MaxSections, Wave: 2, Head: 100, Flow: 3}
	s := impl.SurgeStart(long).State
	sameSurgeStep(t, "MaxSections", long, s, 0, plainSurgeStep(long, s, 0))
	last := impl.SurgeStep(long, s, 0).State
	want := append(repeated(100, impl.MaxSections), 106)
	sameFloats(t, "MaxSections, Heads", last.Heads, want)
	sameFloats(t, "MaxSections, Flows", last.Flows, append(repeated(3, impl.MaxSections), 0))
	all := impl.Line{Sections: 1, Wave: edge, Head: edge, Flow: edge}
	// down: nought less 1e18.
	sameSurgeStep(t, "all at the edge", all, surge([]float64{edge, edge}, []float64{1, 1}), edge,
		surged(surge([]float64{edge, 2 * edge / 1e18}, []float64{1, 2}), edge, 2*edge/1e18))
	all.Drag = edge
	sameSurgeStep(t, "all at the edge, and too great", all, surge(repeated(edge, 2), repeated(edge, 2)), edge, surgeFault(impl.ErrOver))
}

func TestSurgeStepOfAny(t *testing.T) {
	random := rand.New(rand.NewSource(92))
	over, signs := 0, 0
	for range 6000 {
		l, opening := anyLine(random), anyOpening(random)
		s := anyState(random, l)
		want := plainSurgeStep(l, s, opening)
		sameSurgeStep(t, "any", l, s, opening, want)
		if t.Failed() {
			t.Fatalf("of %+v from %+v by %v", l, s, opening)
		}
		if want.Code == impl.ErrOver {
			over++
		}
		if slices.ContainsFunc(want.State.Flows, func(x float64) bool { return x == 0 && math.Signbit(x) }) {
			signs++
		}
	}
	if over < 1000 || over > 4000 || signs < 300 {
		t.Errorf("%d are too great, %d have a nought below: too few or too many to tell", over, signs)
	}
}
