package tests

import (
	"math"
	"math/rand"
	"slices"
	"testing"

	"loop.example/g00068/impl"
)

func sameSolved(t *testing.T, what string, m impl.Mains, rounds int64, want impl.MainsOut) {
	t.Helper()
	sameOfMains(t, "MainsSolve, "+what, func(m impl.Mains) impl.MainsOut { return impl.MainsSolve(m, rounds) }, m, want)
}

func sameLow(t *testing.T, what string, m impl.Mains, flows []int64, least int64, want ...int64) {
	t.Helper()
	before, ahead := copiedMains(m), slices.Clone(flows)
	got := impl.MainsLow(m, flows, least)
	if !slices.Equal(got, want) {
		t.Errorf("MainsLow, %s: got %v, want %v", what, got, want)
	}
	for i := range got {
		got[i] = -7
	}
	if !sameMains(m, before) || !slices.Equal(flows, ahead) {
		t.Errorf("MainsLow, %s: the mains or the flows were changed", what)
	}
}

// plainHeads goes from each node up to node 0, summing up the falls on its way.
func plainHeads(m impl.Mains, flows []int64) []int64 {
	tree, _ := plainTree(m)
	heads := make([]int64, m.Nodes)
	for node := range m.Nodes {
		heads[node] = m.Head
		for at := node; at != 0; {
			up := tree[slices.IndexFunc(tree, func(twig plainTwig) bool { return twig.to == at })]
			fall := plainFall(m.Pipes[up.place], flows[up.place])
			if m.Pipes[up.place].From == up.from {
				heads[node] -= fall
			} else {
				heads[node] += fall
			}
			at = up.from
		}
	}
	return heads
}

// plainSolved asks for right mains and rounds.
func plainSolved(m impl.Mains, rounds int64) impl.MainsOut {
	out := plainStart(m)
	if out.Code != impl.OK {
		return out
	}
	for out.Rounds < rounds {
		next := plainRound(m, out.Flows, map[string]int{}).Flows
		out.Rounds++
		if slices.Equal(next, out.Flows) {
			break
		}
		out.Flows = next
	}
	out.Heads, out.Rest = plainHeads(m, out.Flows), plainRest(m, out.Flows)
	return out
}

func TestMainsSolveByHand(t *testing.T) {
	two := twins(10, plainPipe(0, 1, 1), plainPipe(0, 1, 1))
	sameSolved(t, "no round", two, 0, impl.MainsOut{Flows: []int64{10, 0}, Heads: []int64{1000, 900}, Rest: 100})
	sameSolved(t, "one round", two, 1, impl.MainsOut{Flows: []int64{5, 5}, Heads: []int64{1000, 975}, Rounds: 1})
	sameSolved(t, "the round that changes nothing", two, 2, impl.MainsOut{Flows: []int64{5, 5}, Heads: []int64{1000, 975}, Rounds: 2})
	sameSolved(t, "and none behind it", two, 100, impl.MainsOut{Flows: []int64{5, 5}, Heads: []int64{1000, 975}, Rounds: 2})
	uneven := twins(9, plainPipe(0, 1, 4), plainPipe(0, 1, 1))
	sameSolved(t, "unlike Drags, no round", uneven, 0, impl.MainsOut{Flows: []int64{9, 0}, Heads: []int64{1000, 676}, Rest: 324})
	sameSolved(t, "unlike Drags, one round", uneven, 1, impl.MainsOut{Flows: []int64{5, 4}, Heads: []int64{1000, 900}, Rest: 84, Rounds: 1})
	sameSolved(t, "unlike Drags, two rounds", uneven, 2, impl.MainsOut{Flows: []int64{4, 5}, Heads: []int64{1000, 936}, Rest: 39, Rounds: 2})
	sameSolved(t, "unlike Drags, something is left", uneven, 9, impl.MainsOut{Flows: []int64{4, 5}, Heads: []int64{1000, 936}, Rest: 39, Rounds: 3})
	none := twins(10, plainPipe(0, 1, 1))
	sameSolved(t, "no Loops, no round", none, 0, impl.MainsOut{Flows: []int64{10}, Heads: []int64{1000, 900}})
	sameSolved(t, "no Loops", none, 7, impl.MainsOut{Flows: []int64{10}, Heads: []int64{1000, 900}, Rounds: 1})
	one := impl.Mains{Nodes: 1, Head: -9, Wants: []int64{3}}
	sameSolved(t, "one node, no round", one, 0, impl.MainsOut{Heads: []int64{-9}})
	sameSolved(t, "one node", one, 5, impl.MainsOut{Heads: []int64{-9}, Rounds: 1})
	shut := twins(10, plainPipe(0, 1, 1), pipe(impl.PipeShut, 0, 1, 1, 1))
	sameSolved(t, "a shut pipe", shut, 10, impl.MainsOut{Flows: []int64{10, 0}, Heads: []int64{1000, 900}, Rest: 100, Rounds: 1})
	sameSolved(t, "a town, no round", town(), 0, impl.MainsOut{
		Flows: []int64{43, 33, -5, 0, 8, 0, 0}, Heads: []int64{500, -3198, -3987, -4087, -4307}, Rest: 4587,
	})
	sameSolved(t, "a town, one round", town(), 1, impl.MainsOut{
		Flows: []int64{14, 17, 11, 16, 8, 0, -13}, Heads: []int64{500, 108, 119, 603, -201}, Rest: 1127, Rounds: 1,
	})
}

// The heads go along the tree of the start, whatever flows there now.
func TestMainsSolveHeads(t *testing.T) {
	pump := twins(10, plainPipe(0, 1, 1), pipe(impl.PipePump, 0, 1, 1, 60))
	sameSolved(t, "a pump beside the tree", pump, 9, impl.MainsOut{Flows: []int64{2, 8}, Heads: []int64{1000, 996}, Rounds: 2})
	slices.Reverse(pump.Pipes)
	sameSolved(t, "a pump in the tree", pump, 0, impl.MainsOut{Flows: []int64{10, 0}, Heads: []int64{1000, 960}, Rest: 40})
	sameSolved(t, "a pump in the tree, on its way", pump, 9, impl.MainsOut{Flows: []int64{8, 2}, Heads: []int64{1000, 996}, Rounds: 2})
	lifted := twins(0, pipe(impl.PipePump, 0, 1, 7, 60))
	sameSolved(t, "a pump lifts what does not flow", lifted, 9, impl.MainsOut{Flows: []int64{0}, Heads: []int64{1000, 1060}, Rounds: 1})
	line := impl.Mains{Nodes: 4, Head: -100000, Wants: []int64{9, 1, 2, 3}}
	line.Pipes = []impl.Pipe{pipe(impl.PipeLimit, 2, 3, 3, 3), pipe(impl.PipeThrottle, 2, 1, 1, 1), pipe(impl.PipeCheck, 0, 1, 1, 77)}
	sameSolved(t, "a line", line, 1, impl.MainsOut{Flows: []int64{3, -5, 6}, Heads: []int64{-100000, -100036, -100086, -100113}, Rounds: 1})
	turned := twins(10, plainPipe(0, 1, 1), plainPipe(0, 1, 1))
	turned.Pipes[0].From, turned.Pipes[0].To, turned.Loops[0] = 1, 0, []int64{1, 2}
	sameSolved(t, "the other way", turned, 9, impl.MainsOut{Flows: []int64{-5, 5}, Heads: []int64{1000, 975}, Rounds: 2})
}

func TestMainsSolveAtItsLimits(t *testing.T) {
	line := impl.Mains{Nodes: impl.MaxNodes, Head: -impl.MaxLevel, Wants: slices.Repeat([]int64{1000}, impl.MaxNodes)}
	want := impl.MainsOut{Heads: []int64{-impl.MaxLevel}, Rounds: 1}
	for node := range int64(impl.MaxNodes - 1) {
		line.Pipes = append(line.Pipes, pipe(impl.PipeThrottle, node, node+1, 1000, impl.MaxRun))
		flow := 1000 * (impl.MaxNodes - 1 - node)
		want.Flows, want.Heads = append(want.Flows, flow), append(want.Heads, want.Heads[node]-101000*flow*flow)
	}
	sameSolved(t, "MaxNodes on a line", line, impl.MaxRounds, want)
	slow := twins(1000, plainPipe(0, 1, 1), pipe(impl.PipeThrottle, 0, 1, 1000, impl.MaxRun))
	for _, rounds := range []int64{0, 1, 2, 99, impl.MaxRounds} {
		sameSolved(t, "MaxRounds", slow, rounds, plainSolved(slow, rounds))
	}
}

// Flows that never come to rest are told as they are behind the last round.
func TestMainsSolveWithoutRest(t *testing.T) {
	random := rand.New(rand.NewSource(85))
	restless := 0
	for range 12000 {
		m := anyMains(random, impl.MaxRun)
		out := impl.MainsSolve(m, impl.MaxRounds)
		if out.Code != impl.OK || out.Rounds < impl.MaxRounds {
			continue
		}
		restless++
		for _, rounds := range []int64{98, 99, impl.MaxRounds} {
			sameSolved(t, "restless", m, rounds, plainSolved(m, rounds))
		}
		if t.Failed() {
			t.Fatalf("of %+v", m)
		}
	}
	if restless < 5 {
		t.Errorf("%d are restless: too few to tell", restless)
	}
}

func TestMainsSolveFaults(t *testing.T) {
	away := twins(0, pipe(impl.PipeShut, 0, 1, 1, 1))
	over := twins(7, pipe(impl.PipeLimit, 0, 1, 1, 6), plainPipe(0, 1, 1))
	line := impl.Mains{Nodes: 3, Wants: []int64{0, 0, 5}, Pipes: []impl.Pipe{plainPipe(0, 1, 1), pipe(impl.PipeLimit, 1, 2, 1, 4)}}
	for what, rounds := range beside(0, impl.MaxRounds) {
		sameSolved(t, "rounds are "+what, town(), rounds, mainsFault(impl.ErrForm))
		sameSolved(t, "rounds are "+what+", and a node is not reached", away, rounds, mainsFault(impl.ErrForm))
		sameSolved(t, "rounds are "+what+", and a flow may not be", over, rounds, mainsFault(impl.ErrForm))
	}
	for _, rounds := range []int64{0, 1, impl.MaxRounds, -1} {
		for what, m := range wrongMains() {
			sameSolved(t, what, m, rounds, mainsFault(impl.ErrForm))
		}
	}
	for _, rounds := range []int64{0, 1, impl.MaxRounds} {
		sameSolved(t, "a node is not reached", away, rounds, mainsFaultAt(impl.ErrNone, 1))
		sameSolved(t, "a flow may not be", over, rounds, mainsFaultAt(impl.ErrOver, 0))
		sameSolved(t, "a flow behind another one may not be", line, rounds, mainsFaultAt(impl.ErrOver, 1))
	}
	both := changedMains(line, func(m *impl.Mains) { m.Nodes, m.Wants = 4, []int64{0, 0, 5, 0} })
	sameSolved(t, "not reached ahead of what may not be", both, 3, mainsFaultAt(impl.ErrNone, 3))
}

func TestMainsSolveOfAny(t *testing.T) {
	random := rand.New(rand.NewSource(86))
	seen := map[int64]int{}
	for i := range 8000 {
		m, rounds := anyMains(random, sizes()[i%4]), random.Int63n([]int64{4, 20, 101}[i%3])
		want := plainSolved(m, rounds)
		seen[want.Code]++
		sameSolved(t, "any", m, rounds, want)
		if t.Failed() {
			t.Fatalf("of %+v by %d rounds", m, rounds)
		}
	}
	if min(seen[impl.OK], seen[impl.ErrNone], seen[impl.ErrOver]) < 500 {
		t.Errorf("%v: too few to tell", seen)
	}
}

func TestMainsLowByHand(t *testing.T) {
	two := twins(10, plainPipe(0, 1, 1), plainPipe(0, 1, 1))
	sameLow(t, "one is", two, []int64{5, 5}, 980, 1)
	sameLow(t, "one is just not", two, []int64{5, 5}, 975)
	sameLow(t, "one just is", two, []int64{5, 5}, 976, 1)
	sameLow(t, "the first is just not", two, []int64{5, 5}, 1000, 1)
	sameLow(t, "the first is too", two, []int64{5, 5}, 1001, 0, 1)
	sameLow(t, "by other flows", two, []int64{-5, 900}, 1026, 0, 1)
	sameLow(t, "by other flows, the first alone", two, []int64{-5, 900}, 1025, 0)
	sameLow(t, "the least", two, []int64{5, 5}, math.MinInt64)
	sameLow(t, "the most", two, []int64{5, 5}, math.MaxInt64, 0, 1)
	start := []int64{43, 33, -5, 0, 8, 0, 0}
	sameLow(t, "a town at its start", town(), start, 500, 1, 2, 3, 4)
	sameLow(t, "a town at its start, three", town(), start, -3198, 2, 3, 4)
	sameLow(t, "a town at its start, two", town(), start, -3987, 3, 4)
	sameLow(t, "a town behind a round", town(), []int64{14, 17, 11, 16, 8, 0, -13}, 119, 1, 4)
	one := impl.Mains{Nodes: 1, Head: 9, Wants: []int64{0}}
	sameLow(t, "one node", one, nil, 10, 0)
	sameLow(t, "one node, not low", one, []int64{}, 9)
}

func TestMainsLowRefused(t *testing.T) {
	right := []int64{43, 33, -5, 0, 8, 0, 0}
	for what, flows := range wrongFlows() {
		sameLow(t, what, town(), flows, math.MaxInt64)
	}
	for what, m := range wrongMains() {
		sameLow(t, what, m, right, math.MaxInt64)
		sameLow(t, what+", a flow for each pipe", m, make([]int64, min(len(m.Pipes), impl.MaxList)), math.MaxInt64)
		sameLow(t, what+", no flows", m, nil, math.MaxInt64)
	}
	sameLow(t, "MaxList flows", town(), make([]int64, impl.MaxList), math.MaxInt64)
	sameLow(t, "more than MaxList flows", town(), make([]int64, impl.MaxList+1), math.MaxInt64)
	away := changedMains(town(), func(m *impl.Mains) { m.Pipes[4].Kind = impl.PipeShut })
	sameLow(t, "a node is not reached", away, make([]int64, 7), math.MaxInt64)
	over := twins(7, pipe(impl.PipeLimit, 0, 1, 1, 6), plainPipe(0, 1, 1))
	sameLow(t, "a start that may not be", over, []int64{3, 4}, math.MaxInt64)
	over.Wants[1] = 6
	sameLow(t, "a start that may just be", over, []int64{3, 4}, math.MaxInt64, 0, 1)
}

func TestMainsLowOfAny(t *testing.T) {
	random := rand.New(rand.NewSource(87))
	lows := 0
	for i := range 10000 {
		m := anyMains(random, sizes()[i%4])
		flows := anyFlows(random, m, sizes()[random.Intn(4)])
		var want []int64
		least := int64(math.MaxInt64)
		if plainStart(m).Code == impl.OK {
			heads := plainHeads(m, flows)
			least = heads[random.Intn(len(heads))] + random.Int63n(2)
			for node, head := range heads {
				if head < least {
					want = append(want, int64(node))
				}
			}
		}
		lows += len(want)
		sameLow(t, "any", m, flows, least, want...)
		if t.Failed() {
			t.Fatalf("of %+v by %v", m, flows)
		}
	}
	if lows < 1000 {
		t.Errorf("%d are low: too few to tell", lows)
	}
}
