package tests

import (
	"math"
	"math/rand"
	"slices"
	"testing"

	"loop.example/g00068/impl"
)

// tiny is the least float above nought; justOver brings what is at the edge beyond it.
const (
	tiny     = math.SmallestNonzeroFloat64
	justOver = 0x1p-22
)

func surgeFault(code int64) impl.SurgeOut {
	return impl.SurgeOut{Code: code}
}

func surge(heads []float64, flows []float64) impl.Surge {
	return impl.Surge{Heads: heads, Flows: flows}
}

func surged(s impl.Surge, high float64, low float64) impl.SurgeOut {
	return impl.SurgeOut{State: s, High: high, Low: low}
}

func copiedSurge(s impl.Surge) impl.Surge {
	return surge(slices.Clone(s.Heads), slices.Clone(s.Flows))
}

func sameState(t *testing.T, what string, got impl.Surge, want impl.Surge) {
	t.Helper()
	sameFloats(t, what+", Heads", got.Heads, want.Heads)
	sameFloats(t, what+", Flows", got.Flows, want.Flows)
}

func sameSurgeOut(t *testing.T, what string, got impl.SurgeOut, want impl.SurgeOut) {
	t.Helper()
	if got.Code != want.Code {
		t.Errorf("%s: got code %d, want %d", what, got.Code, want.Code)
	}
	sameState(t, what, got.State, want.State)
	sameBits(t, what+", High", got.High, want.High)
	sameBits(t, what+", Low", got.Low, want.Low)
}

// sameOfSurge asks twice, each list told spoilt in between, and holds the other one against what it was.
func sameOfSurge(t *testing.T, what string, ask func() impl.SurgeOut, want impl.SurgeOut) {
	t.Helper()
	got := ask()
	sameSurgeOut(t, what, got, want)
	for i := range got.State.Heads {
		got.State.Heads[i] = -77
	}
	sameFloats(t, what+", Flows once Heads are spoilt", got.State.Flows, want.State.Flows)
	for i := range got.State.Flows {
		got.State.Flows[i] = -77
	}
	sameSurgeOut(t, what+", once more", ask(), want)
}

func sameSurgeStart(t *testing.T, what string, l impl.Line, want impl.SurgeOut) {
	t.Helper()
	sameOfSurge(t, "SurgeStart, "+what, func() impl.SurgeOut { return impl.SurgeStart(l) }, want)
}

func sameSurgeStep(t *testing.T, what string, l impl.Line, s impl.Surge, opening float64, want impl.SurgeOut) {
	t.Helper()
	before := copiedSurge(s)
	sameOfSurge(t, "SurgeStep, "+what, func() impl.SurgeOut { return impl.SurgeStep(l, s, opening) }, want)
	sameState(t, "SurgeStep, what was handed in, "+what, s, before)
}

func sameSurgeRun(t *testing.T, what string, l impl.Line, openings []float64, want impl.SurgeOut) {
	t.Helper()
	before := slices.Clone(openings)
	sameOfSurge(t, "SurgeRun, "+what, func() impl.SurgeOut { return impl.SurgeRun(l, openings) }, want)
	sameFloats(t, "SurgeRun, openings, "+what, openings, before)
}

func plainLineFall(l impl.Line, flow float64) float64 {
	return times(times(l.Drag, flow), math.Abs(flow))
}

// plainHighLow tells the first of those than which none is greater, or none is less.
func plainHighLow(heads []float64) (float64, float64) {
	first := func(fits func(x float64, y float64) bool) float64 {
		return heads[slices.IndexFunc(heads, func(x float64) bool {
			return !slices.ContainsFunc(heads, func(y float64) bool { return fits(x, y) })
		})]
	}
	high := first(func(x float64, y float64) bool { return y > x })
	low := first(func(x float64, y float64) bool { return y < x })
	return high, low
}

func plainSurgeStart(l impl.Line) impl.SurgeOut {
	heads, flows := []float64{l.Head}, repeated(l.Flow, int(l.Sections)+1)
	for i := range l.Sections {
		heads = append(heads, minus(heads[i], plainLineFall(l, l.Flow)))
	}
	high, low := plainHighLow(heads)
	return surged(surge(heads, flows), high, low)
}

// plainSurgeStep asks for what is right, and goes word by word as chapter 10 has a step.
func plainSurgeStep(l impl.Line, s impl.Surge, opening float64) impl.SurgeOut {
	up := func(i int) float64 {
		head, flow := s.Heads[i-1], s.Flows[i-1]
		return minus(plus(head, times(l.Wave, flow)), plainLineFall(l, flow))
	}
	down := func(i int) float64 {
		head, flow := s.Heads[i+1], s.Flows[i+1]
		return plus(minus(head, times(l.Wave, flow)), plainLineFall(l, flow))
	}
	last := int(l.Sections)
	heads, flows := []float64{l.Head}, []float64{minus(l.Head, down(0)) / l.Wave}
	for i := 1; i < last; i++ {
		heads = append(heads, plus(up(i), down(i))/2)
		flows = append(flows, minus(up(i), down(i))/times(2, l.Wave))
	}
	heads = append(heads, up(last)/plus(1, times(l.Wave, opening)))
	flows = append(flows, times(opening, heads[last]))
	for _, x := range slices.Concat(heads, flows) {
		if !(math.Abs(x) <= edge) {
			return surgeFault(impl.ErrOver)
		}
	}
	high, low := plainHighLow(heads)
	return surged(surge(heads, flows), high, low)
}

// lineWith is a line that is right but for what the field is set to.
func lineWith(set func(l *impl.Line)) impl.Line {
	l := impl.Line{Sections: 2, Wave: 10, Drag: 1, Head: 100, Flow: 2}
	set(&l)
	return l
}

// wrongLines keep two pieces where they can, so that a state of three places is that of each.
func wrongLines() map[string]impl.Line {
	wrong := map[string]impl.Line{
		"none":                    {},
		"Wave is nought":          lineWith(func(l *impl.Line) { l.Wave = 0 }),
		"Wave is a nought below":  lineWith(func(l *impl.Line) { l.Wave = minusNought() }),
		"Wave just below nought":  lineWith(func(l *impl.Line) { l.Wave = -tiny }),
		"Wave below nought":       lineWith(func(l *impl.Line) { l.Wave = -10 }),
		"Drag just below nought":  lineWith(func(l *impl.Line) { l.Drag = -tiny }),
		"Drag below nought":       lineWith(func(l *impl.Line) { l.Drag = -1 }),
		"Drag at the other edge":  lineWith(func(l *impl.Line) { l.Drag = -edge }),
		"no pieces":               lineWith(func(l *impl.Line) { l.Sections = 0 }),
		"less than none":          lineWith(func(l *impl.Line) { l.Sections = -1 }),
		"one piece too many":      lineWith(func(l *impl.Line) { l.Sections = impl.MaxSections + 1 }),
		"the least of all pieces": lineWith(func(l *impl.Line) { l.Sections = math.MinInt64 }),
		"the most of all pieces":  lineWith(func(l *impl.Line) { l.Sections = math.MaxInt64 }),
	}
	fields := map[string]func(l *impl.Line) *float64{
		"Wave": func(l *impl.Line) *float64 { return &l.Wave },
		"Drag": func(l *impl.Line) *float64 { return &l.Drag },
		"Head": func(l *impl.Line) *float64 { return &l.Head },
		"Flow": func(l *impl.Line) *float64 { return &l.Flow },
	}
	for name, field := range fields {
		for i, x := range noMeasures() {
			wrong[name+" no measure "+decimal(int64(i))] = lineWith(func(l *impl.Line) { *field(l) = x })
		}
	}
	return wrong
}

// anyLine is of sizes that let a surge go on, of a few of the least floats, or of any floats.
func anyLine(random *rand.Rand) impl.Line {
	l := impl.Line{Sections: 1 + random.Int63n(5)}
	part := func(size float64) float64 { return (2*random.Float64() - 1) * size }
	switch random.Intn(6) {
	case 0:
		l.Wave, l.Drag = 1, float64(random.Intn(2))
		l.Head, l.Flow = tiny*float64(random.Intn(7)-3), tiny*float64(random.Intn(7)-3)
	case 1:
		l.Wave, l.Drag = math.Abs(anyMeasure(random)), math.Abs(anyMeasure(random))
		l.Head, l.Flow = anyMeasure(random), anyMeasure(random)
	case 2:
		l.Wave, l.Drag = float64(random.Intn(9)), float64(random.Intn(2))
		l.Head, l.Flow = float64(random.Intn(9)-4), float64(random.Intn(9)-4)
	default:
		l.Wave, l.Drag = 1+math.Abs(part(20)), math.Abs(part(0.5))
		l.Head, l.Flow = part(100), part(5)
	}
	if l.Wave == 0 {
		l.Wave = 1
	}
	if random.Intn(20) == 0 {
		l.Sections = impl.MaxSections
	}
	return l
}

// anyOpening is shut now and then, and seldom wide open.
func anyOpening(random *rand.Rand) float64 {
	switch random.Intn(5) {
	case 0:
		return 0
	case 1:
		return minusNought()
	case 2:
		return float64(random.Intn(3))
	case 3:
		return math.Abs(anyMeasure(random))
	}
	return random.Float64()
}

func anyState(random *rand.Rand, l impl.Line) impl.Surge {
	s := surge(anyMeasures(random, int(l.Sections)+1), anyMeasures(random, int(l.Sections)+1))
	if random.Intn(3) > 0 {
		for i := range s.Heads {
			s.Heads[i] = float64(random.Intn(9)-4) * min(1+math.Abs(l.Head)/4, edge/4)
			s.Flows[i] = float64(random.Intn(9)-4) * min(1+math.Abs(l.Flow)/4, edge/4)
		}
	}
	return s
}

func TestSurgeStartByHand(t *testing.T) {
	falls := lineWith(func(*impl.Line) {})
	sameSurgeStart(t, "falls", falls, surged(surge([]float64{100, 96, 92}, []float64{2, 2, 2}), 100, 92))
	rises := lineWith(func(l *impl.Line) { l.Flow = -2 })
	sameSurgeStart(t, "rises", rises, surged(surge([]float64{100, 104, 108}, []float64{-2, -2, -2}), 108, 100))
	level := lineWith(func(l *impl.Line) { l.Drag = 0 })
	sameSurgeStart(t, "level", level, surged(surge([]float64{100, 100, 100}, []float64{2, 2, 2}), 100, 100))
	still := lineWith(func(l *impl.Line) { l.Flow = 0 })
	sameSurgeStart(t, "still", still, surged(surge([]float64{100, 100, 100}, []float64{0, 0, 0}), 100, 100))
	below := lineWith(func(l *impl.Line) { l.Head, l.Drag, l.Flow = -5, 0.5, 3 })
	sameSurgeStart(t, "below nought", below, surged(surge([]float64{-5, -9.5, -14}, []float64{3, 3, 3}), -5, -14))
	one := lineWith(func(l *impl.Line) { l.Sections = 1 })
	sameSurgeStart(t, "one piece", one, surged(surge([]float64{100, 96}, []float64{2, 2}), 100, 96))
}

func TestSurgeStartEachByItself(t *testing.T) {
	// 1.5 of the least are rounded to 2, and 3 of it come of these; 2.25 of it would be rounded to 2.
	least := impl.Line{Sections: 2, Wave: 1, Drag: tiny, Flow: 1.5}
	sameSurgeStart(t, "Drag times Flow first", least, surged(surge([]float64{0, -3 * tiny, -6 * tiny}, []float64{1.5, 1.5, 1.5}), 0, -6*tiny))
	// Half of the last bit is lost at each place; all four together would count.
	lost := impl.Line{Sections: 4, Wave: 1, Drag: 0x1p-24, Head: edge, Flow: 1}
	sameSurgeStart(t, "from place to place", lost, surged(surge(repeated(edge, 5), repeated(1, 5)), edge, edge))
	up, down := 1+0x1p-30, 1-0x1p-30
	// The last product is 1 as a float, and just below 1 were it put together with the sum.
	alone := impl.Line{Sections: 1, Wave: 1, Drag: up / down, Head: 1, Flow: down}
	sameSurgeStart(t, "no product with a sum", alone, plainSurgeStart(alone))
	sameBits(t, "no product with a sum", impl.SurgeStart(alone).State.Heads[1], 1-up/down*down*down)
}

func TestSurgeStartNoughts(t *testing.T) {
	below := minusNought()
	noughts := func(x float64, y float64, flow float64) impl.SurgeOut {
		return surged(surge([]float64{x, y, y}, repeated(flow, 3)), x, x)
	}
	l := impl.Line{Sections: 2, Wave: 1, Drag: 1}
	sameSurgeStart(t, "above and above", l, noughts(0, 0, 0))
	l.Head = below
	sameSurgeStart(t, "below and above", l, noughts(below, below, 0))
	l.Flow = below
	sameSurgeStart(t, "below and below", l, noughts(below, 0, below))
	l.Head = 0
	sameSurgeStart(t, "above and below", l, noughts(0, 0, below))
	l = impl.Line{Sections: 2, Wave: 1, Drag: below, Head: below, Flow: 1}
	sameSurgeStart(t, "Drag below", l, noughts(below, 0, 1))
}

func TestSurgeStartAtItsLimits(t *testing.T) {
	long := lineWith(func(l *impl.Line) { l.Sections = impl.MaxSections })
	var heads []float64
	for i := range impl.MaxSections + 1 {
		heads = append(heads, float64(100-4*i))
	}
	sameSurgeStart(t, "MaxSections", long, surged(surge(heads, repeated(2, impl.MaxSections+1)), 100, 100-4*impl.MaxSections))
	all := impl.Line{Sections: 1, Wave: edge, Drag: edge, Head: edge, Flow: edge}
	sameSurgeStart(t, "all at the edge, and a head that is no measure", all, surged(surge([]float64{edge, edge - 1e27}, repeated(edge, 2)), edge, edge-1e27))
	other := impl.Line{Sections: 1, Wave: tiny, Drag: edge, Head: -edge, Flow: -edge}
	sameSurgeStart(t, "the other edges", other, surged(surge([]float64{-edge, 1e27 - edge}, repeated(-edge, 2)), 1e27-edge, -edge))
	least := impl.Line{Sections: 1, Wave: tiny}
	sameSurgeStart(t, "the least", least, surged(surge([]float64{0, 0}, []float64{0, 0}), 0, 0))
	for what, l := range wrongLines() {
		sameSurgeStart(t, what, l, surgeFault(impl.ErrForm))
	}
}

func TestSurgeStartOfAny(t *testing.T) {
	random := rand.New(rand.NewSource(91))
	for range 3000 {
		l := anyLine(random)
		sameSurgeStart(t, "any", l, plainSurgeStart(l))
		if t.Failed() {
			t.Fatalf("of %+v", l)
		}
	}
}
