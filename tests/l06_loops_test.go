package tests

import (
	"math"
	"math/rand"
	"slices"
	"testing"

	"loop.example/g00068/impl"
)

func loopFault(code int64) impl.LoopOut {
	return impl.LoopOut{Code: code}
}

func cycles(values []float64, drives []float64) impl.LoopOut {
	return impl.LoopOut{Values: values, Drives: drives}
}

func sameFloats(t *testing.T, what string, got []float64, want []float64) {
	t.Helper()
	if len(got) != len(want) {
		t.Errorf("%s: got %v, want %v", what, got, want)
		return
	}
	for i := range got {
		sameBits(t, what+" at "+decimal(int64(i)), got[i], want[i])
	}
}

func sameLoopOut(t *testing.T, what string, got impl.LoopOut, want impl.LoopOut) {
	t.Helper()
	if got.Code != want.Code {
		t.Errorf("%s: got code %d, want %d", what, got.Code, want.Code)
	}
	sameFloats(t, what+", Values", got.Values, want.Values)
	sameFloats(t, what+", Drives", got.Drives, want.Drives)
}

// sameLoop also holds what was handed in against what it was, and each list told against the other when one is spoilt.
func sameLoop(t *testing.T, what string, l impl.Loop, start float64, wants []float64, want impl.LoopOut) {
	t.Helper()
	before := slices.Clone(wants)
	got := impl.LoopRun(l, start, wants)
	sameLoopOut(t, "LoopRun, "+what, got, want)
	for i := range got.Values {
		got.Values[i] = -77
	}
	sameFloats(t, "LoopRun, Drives once Values are spoilt, "+what, got.Drives, want.Drives)
	for i := range got.Drives {
		got.Drives[i] = -77
	}
	sameFloats(t, "LoopRun, wants, "+what, wants, before)
	sameLoopOut(t, "LoopRun, once more, "+what, impl.LoopRun(l, start, wants), want)
}

// plainLoop asks for what is right, and goes word by word as chapter 7 has a cycle.
func plainLoop(l impl.Loop, start float64, wants []float64) impl.LoopOut {
	var out impl.LoopOut
	value, sum := start, 0.0
	for _, want := range wants {
		off, ahead := minus(want, value), sum
		sum = plus(sum, times(l.Sum, off))
		drive := plus(times(l.Up, off), sum)
		if drive < l.Low {
			drive, sum = l.Low, ahead
		}
		if drive > l.High {
			drive, sum = l.High, ahead
		}
		value = plus(value, times(l.Lag, minus(times(l.Gain, drive), value)))
		if math.Abs(value) > edge || math.Abs(sum) > edge {
			return loopFault(impl.ErrOver)
		}
		out.Values, out.Drives = append(out.Values, value), append(out.Drives, drive)
	}
	return out
}

// loopWith is a loop that is right but for what the field is set to.
func loopWith(set func(l *impl.Loop)) impl.Loop {
	l := impl.Loop{Up: 1, Sum: 0.5, Gain: 2, Lag: 0.5, Low: -10, High: 10}
	set(&l)
	return l
}

func wrongLoops() map[string]impl.Loop {
	wrong := map[string]impl.Loop{
		"none":                    {},
		"no lag":                  loopWith(func(l *impl.Loop) { l.Lag = 0 }),
		"no lag, below":           loopWith(func(l *impl.Loop) { l.Lag = minusNought() }),
		"a lag below nought":      loopWith(func(l *impl.Loop) { l.Lag = -0.5 }),
		"a lag just below nought": loopWith(func(l *impl.Loop) { l.Lag = -math.SmallestNonzeroFloat64 }),
		"a lag just above 1":      loopWith(func(l *impl.Loop) { l.Lag = math.Nextafter(1, 2) }),
		"a lag of 2":              loopWith(func(l *impl.Loop) { l.Lag = 2 }),
		"Low above High":          loopWith(func(l *impl.Loop) { l.Low = 11 }),
		"Low just above High":     loopWith(func(l *impl.Loop) { l.Low = math.Nextafter(10, 11) }),
		"the edges changed over":  loopWith(func(l *impl.Loop) { l.Low, l.High = edge, -edge }),
	}
	fields := map[string]func(l *impl.Loop) *float64{
		"Up":   func(l *impl.Loop) *float64 { return &l.Up },
		"Sum":  func(l *impl.Loop) *float64 { return &l.Sum },
		"Gain": func(l *impl.Loop) *float64 { return &l.Gain },
		"Lag":  func(l *impl.Loop) *float64 { return &l.Lag },
		"Low":  func(l *impl.Loop) *float64 { return &l.Low },
		"High": func(l *impl.Loop) *float64 { return &l.High },
	}
	for name, field := range fields {
		for i, x := range noMeasures() {
			wrong[name+" no measure "+decimal(int64(i))] = loopWith(func(l *impl.Loop) { *field(l) = x })
		}
	}
	return wrong
}

// anyLoop is of sizes that let a loop run on, now and then of ones that do not.
func anyLoop(random *rand.Rand) impl.Loop {
	size := []float64{1, 1, 1, 1e4, 1e9}[random.Intn(5)]
	part := func() float64 { return (2*random.Float64() - 1) * size }
	l := impl.Loop{Up: part(), Sum: part(), Gain: part(), Lag: 1 - random.Float64(), Low: part(), High: part()}
	l.Low, l.High = min(l.Low, l.High), max(l.Low, l.High)
	if random.Intn(4) == 0 {
		l.Low, l.High = -edge, edge
	}
	if random.Intn(4) == 0 {
		l.Sum = 0
	}
	return l
}

func anyWants(random *rand.Rand, most int) []float64 {
	wants := make([]float64, random.Intn(most+1))
	for i := range wants {
		wants[i] = (2*random.Float64() - 1) * []float64{1, 100}[random.Intn(2)]
		if i > 0 && random.Intn(3) > 0 {
			wants[i] = wants[i-1]
		}
	}
	return wants
}

func TestLoopRunByHand(t *testing.T) {
	wide := impl.Loop{Low: -edge, High: edge, Lag: 1, Gain: 1}
	up := wide
	up.Up = 1
	sameLoop(t, "no wants", up, 5, nil, cycles(nil, nil))
	sameLoop(t, "an empty list", up, 5, []float64{}, cycles(nil, nil))
	sameLoop(t, "there and back", up, 0, []float64{4, 4}, cycles([]float64{4, 0}, []float64{4, 0}))
	sameLoop(t, "from a start", up, 3, []float64{4}, cycles([]float64{1}, []float64{1}))
	sums := wide
	sums.Sum = 0.5
	sameLoop(t, "by the sum", sums, 0, []float64{4, 4, 4}, cycles([]float64{2, 3, 3.5}, []float64{2, 3, 3.5}))
	both := loopWith(func(l *impl.Loop) { l.Low, l.High = -100, 100 })
	// Errors: 4, -2, 2; sums: 2, 1, 2.
	sameLoop(t, "by both", both, 0, []float64{4, 4, 4}, cycles([]float64{6, 2, 5}, []float64{6, -1, 4}))
	sameLoop(t, "half the way", loopWith(func(l *impl.Loop) { l.Sum, l.Gain = 0, 3 }), 2, []float64{4}, cycles([]float64{4}, []float64{2}))
	sameLoop(t, "downwards", loopWith(func(l *impl.Loop) { l.Sum, l.Gain = 0, -3 }), 2, []float64{4}, cycles([]float64{-2}, []float64{2}))
	sameLoop(t, "nothing drives", wide, 8, []float64{1, 2}, cycles([]float64{0, 0}, []float64{0, 0}))
	slow := wide
	slow.Lag = 0.25
	sameLoop(t, "nothing drives, and slowly", slow, 8, []float64{1, 2}, cycles([]float64{6, 4.5}, []float64{0, 0}))
}

func TestLoopRunHeld(t *testing.T) {
	l := impl.Loop{Up: 1, Gain: 1, Lag: 1, Low: -10, High: 10}
	sameLoop(t, "above High", l, 0, []float64{40}, cycles([]float64{10}, []float64{10}))
	sameLoop(t, "below Low", l, 0, []float64{-40}, cycles([]float64{-10}, []float64{-10}))
	sameLoop(t, "just at High", l, 0, []float64{10}, cycles([]float64{10}, []float64{10}))
	sameLoop(t, "just at Low", l, 0, []float64{-10}, cycles([]float64{-10}, []float64{-10}))
	l.Sum = 1
	// The third drive would be held too, had the sum of one of the first two cycles been kept.
	sameLoop(t, "the sum stays above High", l, 0, []float64{40, 40, 12}, cycles([]float64{10, 10, 4}, []float64{10, 10, 4}))
	sameLoop(t, "the sum stays below Low", l, 0, []float64{-40, -40, -12}, cycles([]float64{-10, -10, -4}, []float64{-10, -10, -4}))
	sameLoop(t, "the sum goes on at High", l, 0, []float64{5, 10}, cycles([]float64{10, 5}, []float64{10, 5}))
	sameLoop(t, "the sum goes on at Low", l, 0, []float64{-5, -10}, cycles([]float64{-10, -5}, []float64{-10, -5}))
	sameLoop(t, "the sum of ahead, not nought", l, 0, []float64{2, 40, 10}, cycles([]float64{4, 10, 2}, []float64{4, 10, 2}))
	l.Low, l.High = 3, 3
	sameLoop(t, "Low is High", l, 0, []float64{40, -40, 4}, cycles([]float64{3, 3, 3}, []float64{3, 3, 3}))
	l.Low, l.High = 5, 7
	sameLoop(t, "both above nought", l, 0, []float64{0, 9}, cycles([]float64{5, 7}, []float64{5, 7}))
	l.Low, l.High = -7, -5
	sameLoop(t, "both below nought", l, 0, []float64{0, -9}, cycles([]float64{-5, -7}, []float64{-5, -7}))
}

func TestLoopRunNoughts(t *testing.T) {
	below := minusNought()
	l := impl.Loop{Up: -1, Sum: -1, Gain: 1, Lag: 1, Low: below, High: edge}
	sameLoop(t, "the sum begins above", l, 0, []float64{0}, cycles([]float64{0}, []float64{0}))
	sameLoop(t, "held at a nought below", l, 0, []float64{1}, cycles([]float64{0}, []float64{below}))
	sameLoop(t, "a start below", l, below, []float64{below}, cycles([]float64{0}, []float64{0}))
	l.Low, l.High = -edge, below
	sameLoop(t, "held at a nought from above", l, 0, []float64{-1}, cycles([]float64{0}, []float64{below}))
	sameLoop(t, "a nought is not above a nought below", l, 0, []float64{0}, cycles([]float64{0}, []float64{0}))
	l.Low, l.High = 0, below
	sameLoop(t, "noughts are alike", l, 0, []float64{0, 1, -1}, cycles([]float64{0, 0, 0}, []float64{0, 0, below}))
	still := impl.Loop{Gain: -1, Lag: 0.5, Low: 0, High: 0}
	sameLoop(t, "a value that comes up", still, below, []float64{0}, cycles([]float64{0}, []float64{0}))
	sameLoop(t, "a value that goes under", still, -math.SmallestNonzeroFloat64, []float64{0}, cycles([]float64{-math.SmallestNonzeroFloat64}, []float64{0}))
}

func TestLoopRunEachByItself(t *testing.T) {
	up, down := 1+0x1p-30, 1-0x1p-30
	// The product of both is 1 as a float, and just below 1 else.
	l := impl.Loop{Up: up, Gain: 1, Lag: 1, Low: -edge, High: edge}
	sameLoop(t, "Up", l, 0, []float64{down}, cycles([]float64{1}, []float64{1}))
	l = impl.Loop{Up: -1, Sum: up, Gain: 1, Lag: 1, Low: -edge, High: edge}
	sameLoop(t, "Sum", l, 0, []float64{down}, cycles([]float64{minus(1, down)}, []float64{minus(1, down)}))
	l = impl.Loop{Sum: 1, Up: up, Gain: 1, Lag: 1, Low: -edge, High: edge}
	sameLoop(t, "Up and Sum", l, 0, []float64{down}, plainLoop(l, 0, []float64{down}))
	l = impl.Loop{Up: 1, Gain: up, Lag: 1, Low: down, High: down}
	sameLoop(t, "Gain", l, 1, []float64{0}, cycles([]float64{1}, []float64{down}))
	l = impl.Loop{Up: 1, Gain: 0, Lag: down, Low: 0, High: 0}
	sameLoop(t, "Lag", l, up, []float64{0}, cycles([]float64{0x1p-30}, []float64{0}))
}

func TestLoopRunSize(t *testing.T) {
	l := loopWith(func(*impl.Loop) {})
	sameLoop(t, "MaxCycles", l, 0, repeated(1, impl.MaxCycles), plainLoop(l, 0, repeated(1, impl.MaxCycles)))
	for _, count := range []int{impl.MaxCycles + 1, impl.MaxList, impl.MaxList + 1} {
		sameLoop(t, "too many", l, 0, repeated(1, count), loopFault(impl.ErrSize))
		sameLoop(t, "too many, and a wrong start", l, math.NaN(), repeated(1, count), loopFault(impl.ErrSize))
		sameLoop(t, "too many, and wrong ones", l, 0, repeated(math.NaN(), count), loopFault(impl.ErrSize))
		sameLoop(t, "too many of no loop", impl.Loop{}, 0, repeated(1, count), loopFault(impl.ErrSize))
		over := loopWith(func(l *impl.Loop) { l.Gain, l.High = edge, edge })
		sameLoop(t, "too many, and too great", over, 0, repeated(5, count), loopFault(impl.ErrSize))
	}
	sameLoop(t, "MaxCycles of no loop", impl.Loop{}, 0, repeated(1, impl.MaxCycles), loopFault(impl.ErrForm))
}

func TestLoopRunForm(t *testing.T) {
	for what, l := range wrongLoops() {
		sameLoop(t, what, l, 0, []float64{1}, loopFault(impl.ErrForm))
		sameLoop(t, what+", no wants", l, 0, nil, loopFault(impl.ErrForm))
		sameLoop(t, what+", a wrong start", l, math.Inf(1), []float64{1}, loopFault(impl.ErrForm))
	}
	l, over := loopWith(func(*impl.Loop) {}), loopWith(func(l *impl.Loop) { l.Gain, l.High = edge, edge })
	sameLoop(t, "too great, alone", over, 0, []float64{5}, loopFault(impl.ErrOver))
	for _, x := range noMeasures() {
		sameLoop(t, "a wrong start", l, x, []float64{1}, loopFault(impl.ErrForm))
		sameLoop(t, "a wrong start, no wants", l, x, nil, loopFault(impl.ErrForm))
		sameLoop(t, "a wrong start, too great", over, x, []float64{5}, loopFault(impl.ErrForm))
		for place := range 3 {
			sameLoop(t, "a wrong want", l, 0, slices.Insert([]float64{1, 2}, place, x), loopFault(impl.ErrForm))
			sameLoop(t, "a wrong want, too great", over, 0, slices.Insert([]float64{5, 5}, place, x), loopFault(impl.ErrForm))
		}
	}
}

func TestLoopRunAtItsLimits(t *testing.T) {
	l := impl.Loop{Up: edge, Sum: -edge, Gain: edge, Lag: math.SmallestNonzeroFloat64, Low: edge, High: edge}
	sameLoop(t, "all at the edge", l, -edge, []float64{edge, -edge}, plainLoop(l, -edge, []float64{edge, -edge}))
	l = impl.Loop{Up: -edge, Sum: edge, Gain: -edge, Lag: 1, Low: -edge, High: -edge}
	sameLoop(t, "too great at once", l, edge, []float64{-edge}, loopFault(impl.ErrOver))
	l = impl.Loop{Up: 1, Gain: 1, Lag: 1, Low: -edge, High: edge}
	sameLoop(t, "to the edge", l, 0, []float64{edge}, cycles([]float64{edge}, []float64{edge}))
	sameLoop(t, "to the other edge", l, 0, []float64{-edge}, cycles([]float64{-edge}, []float64{-edge}))
	sameLoop(t, "from edge to edge", l, -edge, []float64{edge}, cycles([]float64{edge}, []float64{edge}))
}

func TestLoopRunOverByTheValue(t *testing.T) {
	just := 1 + 0x1p-52
	l := impl.Loop{Up: 1, Gain: just, Lag: 1, Low: -edge, High: edge}
	sameLoop(t, "a value just above", l, 0, []float64{edge}, loopFault(impl.ErrOver))
	sameLoop(t, "a value just below", l, 0, []float64{-edge}, loopFault(impl.ErrOver))
	sameLoop(t, "later on", l, 0, []float64{1, 1, edge, 1}, loopFault(impl.ErrOver))
	sameLoop(t, "in the last cycle", l, 0, []float64{0, edge}, loopFault(impl.ErrOver))
	l.Gain = edge
	sameLoop(t, "far above", l, 0, []float64{edge}, loopFault(impl.ErrOver))
	l.High = 1
	sameLoop(t, "to the edge by Gain", l, 0, []float64{edge}, cycles([]float64{edge}, []float64{1}))
	l.High = just
	sameLoop(t, "just above the edge by Gain", l, 0, []float64{edge}, loopFault(impl.ErrOver))
}

// The sum is beyond while Up takes it back, so that the drive and the value stay small.
func TestLoopRunOverByTheSum(t *testing.T) {
	l := impl.Loop{Up: -edge / 2, Sum: edge / 2, Gain: 1, Lag: 1, Low: -1, High: 1}
	sameLoop(t, "a sum at the edge", l, 0, []float64{2}, cycles([]float64{0}, []float64{0}))
	sameLoop(t, "a sum at the other edge", l, 0, []float64{-2}, cycles([]float64{0}, []float64{0}))
	sameLoop(t, "a sum just above", l, 0, []float64{2 + 0x1p-51}, loopFault(impl.ErrOver))
	sameLoop(t, "a sum just below", l, 0, []float64{-2 - 0x1p-51}, loopFault(impl.ErrOver))
	sameLoop(t, "by and by", l, 0, []float64{1, 1, 1}, plainLoop(l, 0, []float64{1, 1, 1}))
	held := impl.Loop{Sum: edge, Gain: 1, Lag: 1, Low: -1, High: 1}
	sameLoop(t, "a sum that does not stay", held, 0, []float64{40, -40}, cycles([]float64{1, -1}, []float64{1, -1}))
	held.Low, held.High = -edge, edge
	sameLoop(t, "a sum at High", held, 0, []float64{1}, cycles([]float64{edge}, []float64{edge}))
	sameLoop(t, "a sum just above High", held, 0, []float64{1 + 0x1p-52, 0}, plainLoop(held, 0, []float64{1 + 0x1p-52, 0}))
	sameLoop(t, "a sum far above High", held, 0, []float64{edge}, cycles([]float64{edge}, []float64{edge}))
}

func TestLoopRunOfAny(t *testing.T) {
	random := rand.New(rand.NewSource(62))
	over := 0
	for range 4000 {
		l, start, wants := anyLoop(random), (2*random.Float64()-1)*100, anyWants(random, 25)
		want := plainLoop(l, start, wants)
		sameLoop(t, "any", l, start, wants, want)
		if t.Failed() {
			t.Fatalf("of %+v from %v by %v", l, start, wants)
		}
		if want.Code == impl.ErrOver {
			over++
		}
	}
	if over < 300 || over > 3000 {
		t.Errorf("%d are too great: too few or too many to tell", over)
	}
}
