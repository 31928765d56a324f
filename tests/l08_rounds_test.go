package tests

import (
	"math"
	"math/rand"
	"slices"
	"sort"
	"testing"

	"loop.example/g00068/impl"
)

// behindRound is the answer of a round: its flows, and what is left.
func behindRound(rest int64, flows ...int64) impl.MainsOut {
	return impl.MainsOut{Flows: flows, Rest: rest}
}

// sameRound also holds the flows against what they were.
func sameRound(t *testing.T, what string, m impl.Mains, flows []int64, want impl.MainsOut) {
	t.Helper()
	before := slices.Clone(flows)
	sameOfMains(t, "MainsRound, "+what, func(m impl.Mains) impl.MainsOut { return impl.MainsRound(m, flows) }, m, want)
	if !slices.Equal(flows, before) {
		t.Errorf("MainsRound, %s: the flows were changed", what)
	}
}

func plainAbs(n int64) int64 {
	return max(n, -n)
}

// plainDrag is what stands in the place of Drag.
func plainDrag(p impl.Pipe) int64 {
	switch p.Kind {
	case impl.PipeThrottle:
		return p.Drag + p.Mark
	case impl.PipeShut:
		return 0
	}
	return p.Drag
}

func plainFall(p impl.Pipe, flow int64) int64 {
	fall := plainDrag(p) * flow * plainAbs(flow)
	if p.Kind == impl.PipePump {
		fall -= p.Mark
	}
	return fall
}

// plainLoopSum tells the sum and the weight of a Loop.
func plainLoopSum(m impl.Mains, loop []int64, flows []int64) (int64, int64) {
	sum, weight := int64(0), int64(0)
	for _, number := range loop {
		place := plainAbs(number) - 1
		fall := plainFall(m.Pipes[place], flows[place])
		if number < 0 {
			fall = -fall
		}
		sum += fall
		weight += 2 * plainAbs(flows[place]) * plainDrag(m.Pipes[place])
	}
	return sum, weight
}

func plainAdded(loop []int64, flows []int64, change int64) []int64 {
	flows = slices.Clone(flows)
	for _, number := range loop {
		if number < 0 {
			flows[-number-1] -= change
		} else {
			flows[number-1] += change
		}
	}
	return flows
}

func allMay(m impl.Mains, flows []int64) bool {
	for place, p := range m.Pipes {
		if !plainMay(p, flows[place]) {
			return false
		}
	}
	return true
}

// plainRound goes from nought towards the change for as long as all flows may be; it also counts what it met.
func plainRound(m impl.Mains, flows []int64, seen map[string]int) impl.MainsOut {
	for _, loop := range m.Loops {
		sum, weight := plainLoopSum(m, loop, flows)
		if weight == 0 {
			seen["no weight"]++
			continue
		}
		change := -sum / weight
		sign := int64(1)
		if change < 0 {
			sign = -1
		}
		held := sort.Search(int(plainAbs(change)), func(k int) bool {
			return !allMay(m, plainAdded(loop, flows, sign*int64(k+1)))
		})
		switch {
		case change == 0:
			seen["no change"]++
		case int64(held) == plainAbs(change):
			seen["a change"]++
		case held == 0:
			seen["held altogether"]++
		default:
			seen["held in part"]++
		}
		flows = plainAdded(loop, flows, sign*int64(held))
	}
	return impl.MainsOut{Flows: slices.Clone(flows), Rest: plainRest(m, flows)}
}

func plainRest(m impl.Mains, flows []int64) int64 {
	rest := int64(0)
	for _, loop := range m.Loops {
		sum, _ := plainLoopSum(m, loop, flows)
		rest = max(rest, plainAbs(sum))
	}
	return rest
}

func TestMainsRoundByHand(t *testing.T) {
	two := twins(10, plainPipe(0, 1, 1), plainPipe(0, 1, 1))
	sameRound(t, "to both halves", two, []int64{10, 0}, behindRound(0, 5, 5))
	sameRound(t, "at rest", two, []int64{5, 5}, behindRound(0, 5, 5))
	sameRound(t, "the other way", two, []int64{0, 10}, behindRound(0, 5, 5))
	sameRound(t, "below nought", two, []int64{-10, 0}, behindRound(0, -5, -5))
	sameRound(t, "against each other", two, []int64{8, -8}, behindRound(32, 4, -4))
	sameRound(t, "a change towards nought", two, []int64{0, 3}, behindRound(3, 1, 2))
	sameRound(t, "a change towards nought from above", two, []int64{3, 0}, behindRound(3, 2, 1))
	sameRound(t, "a change that is nought", two, []int64{1, 0}, behindRound(1, 1, 0))
	sameRound(t, "no flow", two, []int64{0, 0}, behindRound(0, 0, 0))
	uneven := twins(9, plainPipe(0, 1, 4), plainPipe(0, 1, 1))
	sameRound(t, "unlike Drags", uneven, []int64{9, 0}, behindRound(84, 5, 4))
	sameRound(t, "unlike Drags, next", uneven, []int64{5, 4}, behindRound(39, 4, 5))
	sameRound(t, "unlike Drags, at last", uneven, []int64{3, 6}, behindRound(0, 3, 6))
	none := changedMains(two, func(m *impl.Mains) { m.Loops = nil })
	sameRound(t, "no Loops", none, []int64{10, -4}, behindRound(0, 10, -4))
	sameRound(t, "no pipes", impl.Mains{Nodes: 2, Wants: []int64{0, 0}}, nil, behindRound(0))
	sameRound(t, "a town", town(), []int64{43, 33, -5, 0, 8, 0, 0}, behindRound(1127, 14, 17, 11, 16, 8, 0, -13))
}

func TestMainsRoundByKinds(t *testing.T) {
	other := plainPipe(0, 1, 1)
	pump := twins(0, other, pipe(impl.PipePump, 0, 1, 1, 60))
	sameRound(t, "a pump, 160 by 20", pump, []int64{10, 0}, behindRound(0, 2, 8))
	sameRound(t, "a pump, 60 by 8", pump, []int64{2, 2}, behindRound(46, -5, 9))
	sameRound(t, "a pump at rest", pump, []int64{2, 8}, behindRound(0, 2, 8))
	lone := twins(0, plainPipe(0, 1, 0), pipe(impl.PipePump, 0, 1, 0, 60))
	sameRound(t, "a pump without a Drag has no weight", lone, []int64{3, 4}, behindRound(60, 3, 4))
	still := twins(0, other, pipe(impl.PipePump, 0, 1, 9, 5))
	sameRound(t, "a pump at no flow has no weight", still, []int64{0, 0}, behindRound(5, 0, 0))
	check := twins(0, other, pipe(impl.PipeCheck, 0, 1, 1, 60))
	sameRound(t, "a check pipe as plain, whatever its Mark", check, []int64{10, 0}, behindRound(0, 5, 5))
	throttle := twins(0, other, pipe(impl.PipeThrottle, 0, 1, 1, 3))
	sameRound(t, "a throttle by Drag and Mark", throttle, []int64{0, 9}, behindRound(84, 4, 5))
	sameRound(t, "a throttle below nought", throttle, []int64{0, -9}, behindRound(84, -4, -5))
	open := twins(0, other, pipe(impl.PipeThrottle, 0, 1, 0, 0))
	sameRound(t, "a throttle of nought", open, []int64{8, 9}, behindRound(16, 4, 13))
	limit := twins(0, other, pipe(impl.PipeLimit, 0, 1, 1, 60))
	sameRound(t, "a limit as plain", limit, []int64{10, 0}, behindRound(0, 5, 5))
	shut := twins(0, other, pipe(impl.PipeShut, 0, 1, 1000, 60))
	sameRound(t, "a shut pipe", shut, []int64{10, 0}, behindRound(100, 10, 0))
	marked := twins(0, pipe(impl.PipePlain, 0, 1, 1, 60), pipe(impl.PipePlain, 0, 1, 1, 9))
	sameRound(t, "a plain pipe, whatever its Mark", marked, []int64{10, 0}, behindRound(0, 5, 5))
}

// A pump that lifts far drives the change beyond what may be; the flow that may not go on holds it, whichever way it is gone through.
func TestMainsRoundIsHeld(t *testing.T) {
	pump := pipe(impl.PipePump, 0, 1, 1, impl.MaxRun)
	check := twins(0, pipe(impl.PipeCheck, 0, 1, 1, 0), pump)
	sameRound(t, "a check pipe falls to nought", check, []int64{3, 1}, behindRound(99984, 0, 4))
	limit := twins(0, pipe(impl.PipeLimit, 0, 1, 1, 5), pump)
	sameRound(t, "a limit from above to below", limit, []int64{3, 1}, behindRound(99894, -5, 9))
	sameRound(t, "a limit that is met", limit, []int64{-5, 1}, behindRound(99974, -5, 1))
	limit.Pipes[0].Mark = 0
	sameRound(t, "a limit of nought", limit, []int64{0, 1}, behindRound(99999, 0, 1))
	most := twins(0, plainPipe(0, 1, 0), pump)
	sameRound(t, "MaxRun below nought", most, []int64{-99990, 1}, behindRound(99879, -100000, 11))
	sameRound(t, "MaxRun below nought that is met", most, []int64{-100000, 1}, behindRound(99999, -100000, 1))
	turned := changedMains(most, func(m *impl.Mains) { m.Pipes[0].From, m.Pipes[0].To, m.Loops[0] = 1, 0, []int64{-2, -1} })
	sameRound(t, "MaxRun", turned, []int64{99990, 1}, behindRound(99879, 100000, 11))
	sameRound(t, "MaxRun that is met", turned, []int64{100000, 1}, behindRound(99999, 100000, 1))
	around := changedMains(turned, func(m *impl.Mains) { m.Loops[0] = []int64{1, 2} })
	sameRound(t, "MaxRun, gone through the other way", around, []int64{99990, 1}, behindRound(99879, 100000, 11))
	upper := changedMains(turned, func(m *impl.Mains) { m.Pipes[0].Kind, m.Pipes[0].Mark = impl.PipeLimit, 50 })
	sameRound(t, "a limit above", upper, []int64{48, 1}, behindRound(99991, 50, 3))
	two := twins(0, pipe(impl.PipeLimit, 0, 1, 0, 9), pipe(impl.PipeLimit, 0, 1, 0, 20), pump)
	two.Loops = [][]int64{{1, -3}, {2, -3}}
	sameRound(t, "two Loops, each held", two, []int64{2, 3, 1}, behindRound(98775, -9, -20, 35))
	back := twins(0, pipe(impl.PipePump, 0, 1, 0, impl.MaxRun), plainPipe(0, 1, 1))
	sameRound(t, "a pump at MaxRun", back, []int64{impl.MaxRun, 1}, behindRound(100001, impl.MaxRun, 1))
	sameRound(t, "a pump nearly at MaxRun", back, []int64{impl.MaxRun - 7, 1}, behindRound(99964, impl.MaxRun, -6))
}

// The narrowest of several holds.
func TestMainsRoundIsHeldByTheNarrowest(t *testing.T) {
	ring := impl.Mains{Nodes: 4, Wants: make([]int64, 4), Loops: [][]int64{{1, 2, -3, 4}}}
	ring.Pipes = []impl.Pipe{
		pipe(impl.PipePump, 0, 1, 1, impl.MaxRun),
		pipe(impl.PipeLimit, 1, 2, 0, 30),
		pipe(impl.PipeCheck, 3, 2, 0, 0),
		pipe(impl.PipeLimit, 3, 0, 0, 25),
	}
	sameRound(t, "by a limit", ring, []int64{1, 10, 90, 10}, behindRound(99744, 16, 25, 75, 25))
	sameRound(t, "by the other limit", ring, []int64{1, 20, 90, 10}, behindRound(99879, 11, 30, 80, 20))
	sameRound(t, "by a check pipe gone through backwards", ring, []int64{1, 20, 4, 10}, behindRound(99975, 5, 24, 0, 14))
	ring.Pipes[2].Kind = impl.PipeShut
	sameRound(t, "by a shut pipe", ring, []int64{1, 20, 0, 10}, behindRound(99999, 1, 20, 0, 10))
}

func TestMainsRoundLoopsInOrder(t *testing.T) {
	three := twins(0, plainPipe(0, 1, 1), plainPipe(0, 1, 1), plainPipe(0, 1, 1))
	three.Loops = [][]int64{{1, -2}, {2, -3}}
	sameRound(t, "from the left", three, []int64{40, 0, 0}, behindRound(300, 20, 10, 10))
	slices.Reverse(three.Loops)
	sameRound(t, "from the right", three, []int64{40, 0, 0}, behindRound(400, 20, 20, 0))
	three.Loops = [][]int64{{1, -2}, {1, -2}}
	sameRound(t, "one Loop twice", three, []int64{7, 0, 5}, behindRound(7, 4, 3, 5))
	three.Loops = [][]int64{{1, -2}, {2, -1}}
	sameRound(t, "one Loop both ways", three, []int64{60, -60, 0}, behindRound(450, 15, -15, 0))
}

func wrongFlows() map[string][]int64 {
	right := []int64{43, 33, -5, 0, 8, 0, 0}
	wrong := map[string][]int64{"none": nil, "a flow too few": right[:6], "a flow too many": append(slices.Clone(right), 0)}
	add := func(what string, place int, flow int64) {
		flows := slices.Clone(right)
		flows[place] = flow
		wrong[what+" of pipe "+decimal(int64(place))] = flows
	}
	for place := range right {
		add("one above MaxRun", place, impl.MaxRun+1)
		add("one below MaxRun the other way", place, -impl.MaxRun-1)
		add("the least", place, math.MinInt64)
		add("the most", place, math.MaxInt64)
	}
	add("a pump backwards", 1, -1)
	add("a check pipe backwards", 4, -1)
	add("a shut pipe", 5, 1)
	add("a shut pipe backwards", 5, -1)
	add("above a limit", 3, 51)
	add("above a limit backwards", 3, -51)
	return wrong
}

func TestMainsRoundForm(t *testing.T) {
	right := []int64{43, 33, -5, 0, 8, 0, 0}
	for what, flows := range wrongFlows() {
		sameRound(t, what, town(), flows, mainsFault(impl.ErrForm))
	}
	for what, m := range wrongMains() {
		sameRound(t, what, m, right, mainsFault(impl.ErrForm))
		sameRound(t, what+", no flows", m, nil, mainsFault(impl.ErrForm))
		sameRound(t, what+", a flow for each pipe", m, make([]int64, min(len(m.Pipes), impl.MaxList)), mainsFault(impl.ErrForm))
	}
}

func TestMainsRoundSize(t *testing.T) {
	for _, flow := range []int64{0, impl.MaxRun + 1} {
		full, over := slices.Repeat([]int64{flow}, impl.MaxList), slices.Repeat([]int64{flow}, impl.MaxList+1)
		sameRound(t, "MaxList flows", town(), full, mainsFault(impl.ErrForm))
		sameRound(t, "more than MaxList flows", town(), over, mainsFault(impl.ErrSize))
		for what, m := range wrongMains() {
			sameRound(t, "more than MaxList flows, "+what, m, over, mainsFault(impl.ErrSize))
		}
	}
}

// A round asks neither for a way to each node nor for a start.
func TestMainsRoundAsksForNoStart(t *testing.T) {
	apart := impl.Mains{Nodes: 4, Wants: []int64{0, 0, 0, 1000}, Loops: [][]int64{{1, 2}}}
	apart.Pipes = []impl.Pipe{plainPipe(1, 2, 1), plainPipe(2, 1, 1)}
	sameRound(t, "nodes that are not reached", apart, []int64{10, 0}, behindRound(0, 5, -5))
	limit := twins(9, pipe(impl.PipeLimit, 0, 1, 1, 8), plainPipe(0, 1, 1))
	sameRound(t, "a start that may not be", limit, []int64{8, 0}, behindRound(0, 4, 4))
}

func TestMainsRoundAtItsLimits(t *testing.T) {
	free := changedMains(town(), func(m *impl.Mains) { m.Loops = nil })
	for what, flows := range map[string][]int64{
		"the most":  {impl.MaxRun, impl.MaxRun, impl.MaxRun, 50, impl.MaxRun, 0, impl.MaxRun},
		"the least": {-impl.MaxRun, 0, -impl.MaxRun, -50, 0, 0, -impl.MaxRun},
	} {
		sameRound(t, what, free, flows, behindRound(0, flows...))
	}
	wide := changedMains(free, func(m *impl.Mains) { m.Pipes[3].Mark = impl.MaxRun })
	for _, flow := range []int64{impl.MaxRun, -impl.MaxRun} {
		sameRound(t, "a limit of MaxRun", wide, []int64{0, 0, 0, flow, 0, 0, 0}, behindRound(0, 0, 0, 0, flow, 0, 0, 0))
	}
	heavy := twins(0, slices.Repeat([]impl.Pipe{pipe(impl.PipeThrottle, 0, 1, 1000, impl.MaxRun)}, impl.MaxPipes)...)
	heavy.Loops = slices.Repeat([][]int64{zigzag(impl.MaxPipes)}, impl.MaxLoops)
	var flows, want []int64
	for i := range impl.MaxPipes {
		flow := int64(impl.MaxRun * (1 - 2*(i%2)))
		flows, want = append(flows, flow), append(want, flow/impl.MaxRun*25)
	}
	sameRound(t, "all at their limits", heavy, flows, behindRound(40*101000*25*25, want...))
	one := changedMains(heavy, func(m *impl.Mains) { m.Loops = m.Loops[:1] })
	for i := range want {
		want[i] = flows[i] / 2
	}
	sameRound(t, "all at their limits, one Loop", one, flows, behindRound(40*101000*50000*50000, want...))
}

// anyFlows may be, whether they balance or not.
func anyFlows(random *rand.Rand, m impl.Mains, size int64) []int64 {
	flows := make([]int64, len(m.Pipes))
	for place, p := range m.Pipes {
		most := min(size, impl.MaxRun)
		flow := random.Int63n(2*most+1) - most
		switch p.Kind {
		case impl.PipePump, impl.PipeCheck:
			flow = plainAbs(flow)
		case impl.PipeShut:
			flow = 0
		case impl.PipeLimit:
			flow = max(min(flow, p.Mark), -p.Mark)
		}
		flows[place] = flow
	}
	return flows
}

func TestMainsRoundOfAny(t *testing.T) {
	random := rand.New(rand.NewSource(83))
	seen := map[string]int{}
	for i := range 20000 {
		m := anyMains(random, sizes()[i%4])
		flows := anyFlows(random, m, sizes()[random.Intn(4)])
		sameRound(t, "any", m, flows, plainRound(m, flows, seen))
		if t.Failed() {
			t.Fatalf("of %+v by %v", m, flows)
		}
	}
	for _, what := range []string{"no weight", "no change", "a change", "held altogether", "held in part"} {
		if seen[what] < 500 {
			t.Errorf("too few to tell of %q: %v", what, seen)
		}
	}
}

// One flow that may not be is found, wherever it is.
func TestMainsRoundOfAnyWrongFlow(t *testing.T) {
	random := rand.New(rand.NewSource(84))
	wrong := 0
	for i := range 5000 {
		m := anyMains(random, sizes()[i%4])
		if len(m.Pipes) == 0 {
			continue
		}
		flows := anyFlows(random, m, sizes()[i%4])
		place := random.Intn(len(flows))
		flows[place] = random.Int63n(4*impl.MaxRun) - 2*impl.MaxRun
		if plainMay(m.Pipes[place], flows[place]) {
			continue
		}
		wrong++
		sameRound(t, "a flow that may not be", m, flows, mainsFault(impl.ErrForm))
		if t.Failed() {
			t.Fatalf("of %+v by %v", m, flows)
		}
	}
	if wrong < 1000 {
		t.Errorf("%d are wrong: too few to tell", wrong)
	}
}
