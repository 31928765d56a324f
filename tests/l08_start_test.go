package tests

import (
	"math/rand"
	"slices"
	"testing"

	"loop.example/g00068/impl"
)

func mainsFault(code int64) impl.MainsOut {
	return impl.MainsOut{Code: code}
}

func mainsFaultAt(code int64, at int64) impl.MainsOut {
	return impl.MainsOut{At: at, Code: code}
}

func flowsOf(flows ...int64) impl.MainsOut {
	return impl.MainsOut{Flows: flows}
}

func sameMainsOut(t *testing.T, what string, got impl.MainsOut, want impl.MainsOut) {
	t.Helper()
	if got.Code != want.Code || got.At != want.At || got.Rest != want.Rest || got.Rounds != want.Rounds ||
		!slices.Equal(got.Flows, want.Flows) || !slices.Equal(got.Heads, want.Heads) {
		t.Errorf("%s: got %+v, want %+v", what, got, want)
	}
}

func spoilMains(out impl.MainsOut) {
	for i := range out.Flows {
		out.Flows[i] = -77
	}
	for i := range out.Heads {
		out.Heads[i] = -88
	}
}

// sameOfMains also holds the mains against what they were, and asks again behind a spoilt answer.
func sameOfMains(t *testing.T, what string, call func(m impl.Mains) impl.MainsOut, m impl.Mains, want impl.MainsOut) {
	t.Helper()
	before := copiedMains(m)
	got := call(m)
	sameMainsOut(t, what, got, want)
	spoilMains(got)
	for i, head := range got.Heads {
		if head != -88 {
			t.Errorf("%s: head %d shares its memory with a flow", what, i)
		}
	}
	if !sameMains(m, before) {
		t.Errorf("%s: the mains were changed", what)
	}
	sameMainsOut(t, what+", once more", call(m), want)
}

func sameStart(t *testing.T, what string, m impl.Mains, want impl.MainsOut) {
	t.Helper()
	sameOfMains(t, "MainsStart, "+what, impl.MainsStart, m, want)
}

// plainTwig is a pipe of a tree, by its place, and the nodes it leads from and to.
type plainTwig struct {
	place int
	from  int64
	to    int64
}

// plainTree is the tree of chapter 9: the first pipe that leads out of it is looked for anew each time.
func plainTree(m impl.Mains) ([]plainTwig, []int64) {
	in := []int64{0}
	var tree []plainTwig
	for len(in) <= impl.MaxNodes {
		place := slices.IndexFunc(m.Pipes, func(p impl.Pipe) bool {
			from, to := slices.Contains(in, p.From), slices.Contains(in, p.To)
			switch p.Kind {
			case impl.PipeShut:
				return false
			case impl.PipePump, impl.PipeCheck:
				return from && !to
			}
			return from != to
		})
		if place < 0 {
			break
		}
		twig := plainTwig{place, m.Pipes[place].From, m.Pipes[place].To}
		if slices.Contains(in, twig.to) {
			twig.from, twig.to = twig.to, twig.from
		}
		in, tree = append(in, twig.to), append(tree, twig)
	}
	return tree, in
}

// plainBehind tells what is wanted behind a twig: by each node whose way to node 0 goes through it.
func plainBehind(m impl.Mains, tree []plainTwig, through plainTwig) int64 {
	sum := int64(0)
	for node := range m.Nodes {
		for at := node; at != 0; {
			up := tree[slices.IndexFunc(tree, func(twig plainTwig) bool { return twig.to == at })]
			if up == through {
				sum += m.Wants[node]
			}
			at = up.from
		}
	}
	return sum
}

// plainMay tells whether a pipe's flow may be.
func plainMay(p impl.Pipe, flow int64) bool {
	if flow < -impl.MaxRun || flow > impl.MaxRun {
		return false
	}
	switch p.Kind {
	case impl.PipePump, impl.PipeCheck:
		return flow >= 0
	case impl.PipeShut:
		return flow == 0
	case impl.PipeLimit:
		return flow <= p.Mark && flow >= -p.Mark
	}
	return true
}

// plainStart asks for right mains.
func plainStart(m impl.Mains) impl.MainsOut {
	tree, in := plainTree(m)
	for node := range m.Nodes {
		if !slices.Contains(in, node) {
			return mainsFaultAt(impl.ErrNone, node)
		}
	}
	out := impl.MainsOut{Flows: make([]int64, len(m.Pipes))}
	for _, twig := range tree {
		out.Flows[twig.place] = plainBehind(m, tree, twig)
		if m.Pipes[twig.place].From != twig.from {
			out.Flows[twig.place] *= -1
		}
	}
	for place, p := range m.Pipes {
		if !plainMay(p, out.Flows[place]) {
			return mainsFaultAt(impl.ErrOver, int64(place))
		}
	}
	return out
}

func TestMainsStartByHand(t *testing.T) {
	sameStart(t, "a town", town(), flowsOf(43, 33, -5, 0, 8, 0, 0))
	sameStart(t, "one node", impl.Mains{Nodes: 1, Wants: []int64{9}}, flowsOf())
	sameStart(t, "one pipe", twins(7, plainPipe(0, 1, 1)), flowsOf(7))
	back := twins(7, plainPipe(0, 1, 1))
	back.Pipes[0].From, back.Pipes[0].To = 1, 0
	sameStart(t, "one pipe told the other way", back, flowsOf(-7))
	sameStart(t, "nothing wanted", twins(0, plainPipe(0, 1, 1), plainPipe(0, 1, 1)), flowsOf(0, 0))
	sameStart(t, "the first of two", twins(7, plainPipe(0, 1, 9), plainPipe(0, 1, 1)), flowsOf(7, 0))
	own := changedMains(town(), func(m *impl.Mains) { m.Wants[0] = 1000 })
	sameStart(t, "what node 0 wants comes in there", own, flowsOf(43, 33, -5, 0, 8, 0, 0))
	none := changedMains(town(), func(m *impl.Mains) { m.Loops = nil })
	sameStart(t, "no Loops", none, flowsOf(43, 33, -5, 0, 8, 0, 0))
}

// The first pipe by its place is asked for again each time, not the next one behind the last.
func TestMainsStartTakesTheFirstPipe(t *testing.T) {
	m := impl.Mains{Nodes: 4, Wants: []int64{0, 1, 10, 100}}
	m.Pipes = []impl.Pipe{plainPipe(2, 3, 1), plainPipe(1, 2, 1), plainPipe(0, 1, 1), plainPipe(0, 3, 1), plainPipe(0, 2, 1)}
	sameStart(t, "told from the last to the first", m, flowsOf(100, 110, 111, 0, 0))
	m.Pipes[0], m.Pipes[3] = m.Pipes[3], m.Pipes[0]
	sameStart(t, "a shorter way ahead", m, flowsOf(100, 10, 11, 0, 0))
	m.Pipes = []impl.Pipe{plainPipe(0, 1, 1), plainPipe(3, 2, 1), plainPipe(1, 3, 1), plainPipe(1, 2, 1)}
	sameStart(t, "a node by the pipe that came ahead", m, flowsOf(111, 10, 110, 0))
	star := impl.Mains{Nodes: 4, Wants: []int64{5, 1, 2, 3}}
	star.Pipes = []impl.Pipe{plainPipe(3, 0, 1), plainPipe(0, 2, 1), plainPipe(1, 0, 1)}
	sameStart(t, "a star", star, flowsOf(-3, 2, -1))
}

func TestMainsStartByKinds(t *testing.T) {
	for kind := int64(impl.PipePlain); kind <= impl.PipeLimit; kind++ {
		m := twins(6, pipe(kind, 0, 1, 1, 6), plainPipe(0, 1, 1))
		want, other := flowsOf(6, 0), flowsOf(-6, 0)
		switch kind {
		case impl.PipeShut:
			want, other = flowsOf(0, 6), flowsOf(0, 6)
		case impl.PipePump, impl.PipeCheck:
			other = flowsOf(0, 6)
		}
		sameStart(t, "from From to To, kind "+decimal(kind), m, want)
		m.Pipes[0].From, m.Pipes[0].To, m.Loops = 1, 0, nil
		sameStart(t, "from To to From, kind "+decimal(kind), m, other)
	}
	m := impl.Mains{Nodes: 3, Wants: []int64{0, 1, 2}}
	m.Pipes = []impl.Pipe{pipe(impl.PipeCheck, 2, 1, 1, 0), pipe(impl.PipePump, 0, 2, 1, 0), plainPipe(0, 1, 1)}
	sameStart(t, "a check pipe once its From is in", m, flowsOf(1, 3, 0))
}

func TestMainsStartForm(t *testing.T) {
	for what, m := range wrongMains() {
		sameStart(t, what, m, mainsFault(impl.ErrForm))
	}
	away := changedMains(town(), func(m *impl.Mains) { m.Pipes, m.Loops, m.Wants[2] = m.Pipes[:1], nil, 1001 })
	sameStart(t, "wrong, and a node is not reached", away, mainsFault(impl.ErrForm))
	over := twins(7, pipe(impl.PipeLimit, 0, 1, 1, 6))
	over.Head = impl.MaxLevel + 1
	sameStart(t, "wrong, and a flow that may not be", over, mainsFault(impl.ErrForm))
}

func TestMainsStartNone(t *testing.T) {
	sameStart(t, "no pipes", impl.Mains{Nodes: 3, Wants: []int64{0, 0, 0}}, mainsFaultAt(impl.ErrNone, 1))
	sameStart(t, "a shut pipe", twins(0, pipe(impl.PipeShut, 0, 1, 1, 1)), mainsFaultAt(impl.ErrNone, 1))
	for _, kind := range []int64{impl.PipePump, impl.PipeCheck} {
		m := twins(0, pipe(kind, 0, 1, 1, 1))
		sameStart(t, "a pipe from From to To", m, flowsOf(0))
		m.Pipes[0].From, m.Pipes[0].To = 1, 0
		sameStart(t, "a pipe from To to From", m, mainsFaultAt(impl.ErrNone, 1))
	}
	last := changedMains(town(), func(m *impl.Mains) { m.Pipes[4].Kind = impl.PipeShut })
	sameStart(t, "the last node", last, mainsFaultAt(impl.ErrNone, 4))
	two := impl.Mains{Nodes: 5, Wants: make([]int64, 5), Pipes: []impl.Pipe{plainPipe(4, 2, 1), plainPipe(0, 3, 1), plainPipe(3, 1, 1)}}
	sameStart(t, "the least of two", two, mainsFaultAt(impl.ErrNone, 2))
	two.Wants[3] = 9
	two.Pipes[1] = pipe(impl.PipeLimit, 0, 3, 1, 8)
	sameStart(t, "not reached, and a flow that may not be", two, mainsFaultAt(impl.ErrNone, 2))
}

func TestMainsStartOver(t *testing.T) {
	for _, want := range []int64{0, 1, 7, 1000} {
		m := twins(want, pipe(impl.PipeLimit, 0, 1, 1, want))
		back := changedMains(m, func(m *impl.Mains) { m.Pipes[0].From, m.Pipes[0].To = 1, 0 })
		sameStart(t, "a limit that is just met", m, flowsOf(want))
		sameStart(t, "a limit that is just met the other way", back, flowsOf(-want))
		if want > 0 {
			m.Pipes[0].Mark, back.Pipes[0].Mark = want-1, want-1
			sameStart(t, "a limit that is not met", m, mainsFaultAt(impl.ErrOver, 0))
			sameStart(t, "a limit that is not met the other way", back, mainsFaultAt(impl.ErrOver, 0))
		}
	}
	beside := twins(7, pipe(impl.PipeLimit, 0, 1, 1, 6), plainPipe(0, 1, 1))
	sameStart(t, "a limit, with another pipe beside it", beside, mainsFaultAt(impl.ErrOver, 0))
	line := impl.Mains{Nodes: 4, Wants: []int64{0, 1, 2, 3}}
	line.Pipes = []impl.Pipe{plainPipe(0, 1, 1), pipe(impl.PipeLimit, 3, 2, 1, 2), pipe(impl.PipeLimit, 1, 2, 1, 4)}
	sameStart(t, "two limits: the first by its place", line, mainsFaultAt(impl.ErrOver, 1))
	line.Pipes[1].Mark = 3
	sameStart(t, "the one limit that is not met", line, mainsFaultAt(impl.ErrOver, 2))
	line.Pipes[2].Mark = 5
	sameStart(t, "both limits are met", line, flowsOf(6, -3, 5))
	line.Pipes[0].From, line.Pipes[0].To, line.Pipes[0].Kind, line.Pipes[0].Mark = 1, 0, impl.PipeLimit, 5
	sameStart(t, "the limit next to node 0", line, mainsFaultAt(impl.ErrOver, 0))
}

func TestMainsStartAtItsLimits(t *testing.T) {
	line := impl.Mains{Nodes: impl.MaxNodes, Wants: slices.Repeat([]int64{1000}, impl.MaxNodes)}
	var want []int64
	for node := range int64(impl.MaxNodes - 1) {
		line.Pipes = append(line.Pipes, pipe(impl.PipeThrottle, node, node+1, 1000, impl.MaxRun))
		want = append(want, 1000*(impl.MaxNodes-1-node))
	}
	sameStart(t, "MaxNodes on a line", line, flowsOf(want...))
	line.Pipes = append(line.Pipes, slices.Repeat([]impl.Pipe{plainPipe(0, 11, 1)}, impl.MaxPipes-len(line.Pipes))...)
	sameStart(t, "MaxPipes", line, flowsOf(append(want, make([]int64, impl.MaxPipes-len(want))...)...))
	slices.Reverse(line.Pipes)
	around := make([]int64, impl.MaxPipes)
	around[0] = 11000
	for node := range int64(10) {
		around[29+node] = -1000 * (10 - node)
	}
	sameStart(t, "MaxPipes told from the last to the first", line, flowsOf(around...))
}

func TestMainsStartOfAny(t *testing.T) {
	random := rand.New(rand.NewSource(82))
	seen := map[int64]int{}
	for i := range 20000 {
		m := anyMains(random, sizes()[i%4])
		want := plainStart(m)
		seen[want.Code]++
		sameStart(t, "any", m, want)
		if t.Failed() {
			t.Fatalf("of %+v", m)
		}
	}
	if min(seen[impl.OK], seen[impl.ErrNone], seen[impl.ErrOver]) < 1000 {
		t.Errorf("%v: too few to tell", seen)
	}
}
