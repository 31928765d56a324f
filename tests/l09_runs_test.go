package tests

import (
	"math"
	"math/rand"
	"slices"
	"testing"

	"loop.example/g00068/impl"
)

// plainSurgeRun asks for a line that is right; openings and what they come to may be wrong.
func plainSurgeRun(l impl.Line, openings []float64) impl.SurgeOut {
	out := plainSurgeStart(l)
	all := slices.Clone(out.State.Heads)
	for _, opening := range openings {
		for _, x := range append(slices.Concat(out.State.Heads, out.State.Flows), opening) {
			if !(math.Abs(x) <= edge) {
				return surgeFault(impl.ErrForm)
			}
		}
		if opening < 0 {
			return surgeFault(impl.ErrForm)
		}
		if out = plainSurgeStep(l, out.State, opening); out.Code != impl.OK {
			return out
		}
		all = append(all, out.State.Heads...)
	}
	out.High, out.Low = plainHighLow(all)
	return out
}

func anyOpenings(random *rand.Rand, most int) []float64 {
	list := make([]float64, random.Intn(most+1))
	for i := range list {
		list[i] = anyOpening(random)
		if i > 0 && random.Intn(3) > 0 {
			list[i] = list[i-1]
		}
	}
	return list
}

func TestSurgeRunByHand(t *testing.T) {
	states := shutStates()
	for count, high := range []float64{100, 120, 120, 120, 120, 120} {
		low := []float64{100, 100, 100, 100, 100, 80}[count]
		sameSurgeRun(t, "shut for "+decimal(int64(count)), shutting(), repeated(0, count), surged(states[count], high, low))
	}
	sameSurgeRun(t, "an empty list", shutting(), []float64{}, surged(states[0], 100, 100))
	flowing := impl.Line{Sections: 2, Wave: 10, Drag: 1, Head: 136, Flow: 2}
	steady := surge([]float64{136, 132, 128}, []float64{2, 2, 2})
	sameSurgeRun(t, "steady", flowing, repeated(1.0/64, impl.MaxTicks), surged(steady, 136, 128))
}

// The start alone is the highest or the lowest here: what comes behind it lies between.
func TestSurgeRunHighAndLowFromTheStartOn(t *testing.T) {
	falling := impl.Line{Sections: 1, Wave: 1, Drag: 1, Head: 8, Flow: -2}
	// The start: 8 and 12; down is 12 and 2 less 4, up 8 less 2 and 4.
	sameSurgeRun(t, "High", falling, []float64{0}, surged(surge([]float64{8, 10}, []float64{-2, 0}), 12, 8))
	rising := impl.Line{Sections: 1, Wave: 1, Drag: 1, Head: -8, Flow: 2}
	// The start: -8 and -12; up is -8 and 2 less 4.
	sameSurgeRun(t, "Low", rising, []float64{0}, surged(surge([]float64{-8, -10}, []float64{2, minusNought()}), -8, -12))
	// The second step alone brings the valve down to 60, half of what comes up.
	opens := shutting()
	sameSurgeRun(t, "between the first and the last", opens, []float64{0, 0.1, 0, 0}, plainSurgeRun(opens, []float64{0, 0.1, 0, 0}))
	all := impl.SurgeRun(opens, []float64{0, 0.1, 0, 0})
	if all.Low != 60 || all.High != 120 || slices.Contains(all.State.Heads, 60) {
		t.Errorf("High %v, Low %v, Heads %v", all.High, all.Low, all.State.Heads)
	}
}

func TestSurgeRunSize(t *testing.T) {
	l := shutting()
	sameSurgeRun(t, "MaxTicks", l, repeated(0, impl.MaxTicks), plainSurgeRun(l, repeated(0, impl.MaxTicks)))
	far := impl.Line{Sections: 1, Wave: 1, Drag: edge, Flow: edge}
	for _, count := range []int{impl.MaxTicks + 1, impl.MaxList, impl.MaxList + 1} {
		sameSurgeRun(t, "too many", l, repeated(0, count), surgeFault(impl.ErrSize))
		sameSurgeRun(t, "too many, and wrong ones", l, repeated(-1, count), surgeFault(impl.ErrSize))
		sameSurgeRun(t, "too many, and no line", impl.Line{}, repeated(0, count), surgeFault(impl.ErrSize))
		sameSurgeRun(t, "too many, and too great", far, repeated(0, count), surgeFault(impl.ErrSize))
	}
	sameSurgeRun(t, "MaxTicks, and no line", impl.Line{}, repeated(0, impl.MaxTicks), surgeFault(impl.ErrForm))
}

func TestSurgeRunForm(t *testing.T) {
	form := surgeFault(impl.ErrForm)
	for what, l := range wrongLines() {
		sameSurgeRun(t, what, l, []float64{0}, form)
		sameSurgeRun(t, what+", no openings", l, nil, form)
		sameSurgeRun(t, what+", a wrong opening", l, []float64{-1}, form)
	}
	for _, x := range append(noMeasures(), -tiny, -1, -edge) {
		for place := range 3 {
			sameSurgeRun(t, "a wrong opening", shutting(), slices.Insert([]float64{0, 1}, place, x), form)
		}
	}
	// A head of the start is no measure: the start tells it, and no step goes on from there.
	far := impl.Line{Sections: 1, Wave: 1, Drag: edge, Flow: edge}
	sameSurgeRun(t, "a start that is no measure", far, nil, surged(surge([]float64{0, -1e27}, repeated(edge, 2)), 0, -1e27))
	sameSurgeRun(t, "a step from there", far, []float64{0}, form)
	for _, sign := range []float64{1, -1} {
		at := impl.Line{Sections: 2, Wave: 1, Head: sign * edge}
		sameSurgeRun(t, "a start at the edge", at, []float64{0}, surged(surge(repeated(sign*edge, 3), []float64{0, 0, sign * 0}), sign*edge, sign*edge))
		at.Drag, at.Flow = justOver, -sign
		sameSurgeRun(t, "a start just beyond", at, []float64{0}, form)
	}
}

// Each second step squares what flows: the seventh is the first one that is too great.
func TestSurgeRunFirstFault(t *testing.T) {
	over, form := surgeFault(impl.ErrOver), surgeFault(impl.ErrForm)
	l, good := impl.Line{Sections: 1, Wave: 1, Drag: 1, Flow: 10}, 6
	low := 8010.0 - 8010*8010
	sameSurgeRun(t, "not too great as yet", l, repeated(0, good), surged(surge([]float64{0, low}, []float64{-low, minusNought()}), 0, low))
	sameSurgeRun(t, "too great at last", l, repeated(0, good+1), over)
	sameSurgeRun(t, "too great, and more behind it", l, repeated(0, impl.MaxTicks), over)
	for _, x := range append(noMeasures(), -1) {
		sameSurgeRun(t, "wrong behind what is too great", l, append(repeated(0, good+1), x), over)
		sameSurgeRun(t, "wrong where it would be too great", l, append(repeated(0, good), x), form)
		sameSurgeRun(t, "wrong ahead of what would be too great", l, append(repeated(0, good-1), x, 0), form)
	}
}

func TestSurgeRunOfAny(t *testing.T) {
	random := rand.New(rand.NewSource(93))
	var codes [impl.ErrState + 1]int
	signs := 0
	for range 4000 {
		l, openings := anyLine(random), anyOpenings(random, 12)
		if len(openings) > 0 && random.Intn(20) == 0 {
			openings[random.Intn(len(openings))] = append(noMeasures(), -1, -tiny)[random.Intn(11)]
		}
		want := plainSurgeRun(l, openings)
		sameSurgeRun(t, "any", l, openings, want)
		if t.Failed() {
			t.Fatalf("of %+v by %v", l, openings)
		}
		codes[want.Code]++
		if l.Head != 0 && want.High*want.Low == 0 && math.Signbit(want.High) {
			signs++
		}
	}
	if min(codes[impl.OK], codes[impl.ErrForm], codes[impl.ErrOver]) < 100 || signs < 5 {
		t.Errorf("codes %v, %d with a High that is a nought below: too few to tell", codes, signs)
	}
}
