package tests

import (
	"math"
	"math/rand"
	"slices"
	"testing"

	"loop.example/g00068/impl"
)

func pipe(kind int64, from int64, to int64, drag int64, mark int64) impl.Pipe {
	return impl.Pipe{Kind: kind, From: from, To: to, Drag: drag, Mark: mark}
}

func plainPipe(from int64, to int64, drag int64) impl.Pipe {
	return pipe(impl.PipePlain, from, to, drag, 0)
}

func copiedMains(m impl.Mains) impl.Mains {
	m.Pipes, m.Wants, m.Loops = slices.Clone(m.Pipes), slices.Clone(m.Wants), slices.Clone(m.Loops)
	for i, loop := range m.Loops {
		m.Loops[i] = slices.Clone(loop)
	}
	return m
}

func sameMains(a impl.Mains, b impl.Mains) bool {
	return a.Nodes == b.Nodes && a.Head == b.Head && slices.Equal(a.Pipes, b.Pipes) &&
		slices.Equal(a.Wants, b.Wants) && slices.EqualFunc(a.Loops, b.Loops, slices.Equal)
}

// changedMains are a copy of mains but for what is changed of them.
func changedMains(m impl.Mains, change func(m *impl.Mains)) impl.Mains {
	m = copiedMains(m)
	change(&m)
	return m
}

// town has a pipe of each kind, and starts by the pipes 0, 1, 2 (from its To to its From) and 4.
func town() impl.Mains {
	return impl.Mains{
		Nodes: 5,
		Head:  500,
		Pipes: []impl.Pipe{
			plainPipe(0, 1, 2),
			pipe(impl.PipePump, 1, 2, 1, 300),
			pipe(impl.PipeThrottle, 3, 2, 1, 3),
			pipe(impl.PipeLimit, 0, 3, 4, 50),
			pipe(impl.PipeCheck, 2, 4, 5, 6),
			pipe(impl.PipeShut, 4, 3, 9, 9),
			plainPipe(1, 0, 3),
		},
		Loops: [][]int64{{1, 2, -3, -4}, {3, 5, 6}, {1, 7}},
		Wants: []int64{7, 10, 20, 5, 8},
	}
}

// twins has its pipes side by side, from node 0 to node 1, and a Loop through each two of them.
func twins(want int64, pipes ...impl.Pipe) impl.Mains {
	m := impl.Mains{Nodes: 2, Head: 1000, Wants: []int64{0, want}}
	for i, p := range pipes {
		p.From, p.To = 0, 1
		m.Pipes = append(m.Pipes, p)
		if i%2 == 1 {
			m.Loops = append(m.Loops, []int64{int64(i), -int64(i) - 1})
		}
	}
	return m
}

// zigzag goes through all pipes of twins in one Loop, there and back again.
func zigzag(count int) []int64 {
	var loop []int64
	for i := range int64(count) {
		loop = append(loop, (i+1)*(1-2*(i%2)))
	}
	return loop
}

func wrongEnds() map[string]int64 {
	return map[string]int64{"below": -1, "beyond": 5, "the least": math.MinInt64, "the most": math.MaxInt64}
}

// beside are the numbers just outside of a limit at both ends, and the furthest ones.
func beside(least int64, most int64) map[string]int64 {
	return map[string]int64{"below": least - 1, "above": most + 1, "the least": math.MinInt64, "the most": math.MaxInt64}
}

// wrongMains are right but for what their names say.
func wrongMains() map[string]impl.Mains {
	wrong := map[string]impl.Mains{"none": {}}
	add := func(what string, change func(m *impl.Mains)) {
		wrong[what] = changedMains(town(), change)
	}
	for what, node := range wrongEnds() {
		add("From is "+what, func(m *impl.Mains) { m.Pipes[6].From, m.Loops = node, nil })
		add("To is "+what, func(m *impl.Mains) { m.Pipes[0].To, m.Loops = node, nil })
		add("both ends are "+what, func(m *impl.Mains) { m.Pipes[5].From, m.Pipes[5].To, m.Loops = node, node, nil })
	}
	for what, kind := range beside(impl.PipePlain, impl.PipeLimit) {
		add("the first Kind is "+what, func(m *impl.Mains) { m.Pipes[0].Kind = kind })
		add("the last Kind is "+what, func(m *impl.Mains) { m.Pipes[6].Kind = kind })
	}
	for what, drag := range beside(0, 1000) {
		for place := range town().Pipes {
			add("the Drag of pipe "+decimal(int64(place))+" is "+what, func(m *impl.Mains) { m.Pipes[place].Drag = drag })
		}
	}
	for what, mark := range beside(0, impl.MaxRun) {
		for place := range town().Pipes {
			add("the Mark of pipe "+decimal(int64(place))+" is "+what, func(m *impl.Mains) { m.Pipes[place].Mark = mark })
		}
	}
	for what, want := range beside(0, 1000) {
		for node := range town().Wants {
			add("the want of node "+decimal(int64(node))+" is "+what, func(m *impl.Mains) { m.Wants[node] = want })
		}
	}
	for what, head := range beside(-impl.MaxLevel, impl.MaxLevel) {
		add("the Head is "+what, func(m *impl.Mains) { m.Head = head })
	}
	add("a pipe to its own node", func(m *impl.Mains) { m.Pipes[3].To, m.Loops = 0, nil })
	add("one pipe too many", func(m *impl.Mains) { m.Pipes = slices.Repeat(m.Pipes[:1], impl.MaxPipes+1); m.Loops = nil })
	add("very many pipes", func(m *impl.Mains) { m.Pipes = slices.Repeat(m.Pipes[:1], impl.MaxList+1); m.Loops = nil })
	add("a want too few", func(m *impl.Mains) { m.Wants = m.Wants[:4] })
	add("a want too many", func(m *impl.Mains) { m.Wants = append(m.Wants, 0) })
	add("no wants", func(m *impl.Mains) { m.Wants = nil })
	add("no nodes", func(m *impl.Mains) { *m = impl.Mains{Head: 5} })
	add("no nodes, but wants", func(m *impl.Mains) { m.Nodes = 0 })
	add("nodes below nought", func(m *impl.Mains) { m.Nodes = -1 })
	add("the least nodes", func(m *impl.Mains) { m.Nodes = math.MinInt64 })
	add("the most nodes", func(m *impl.Mains) { m.Nodes = math.MaxInt64 })
	add("one node above MaxNodes", func(m *impl.Mains) { m.Nodes, m.Wants = impl.MaxNodes+1, make([]int64, impl.MaxNodes+1) })
	addWrongLoops(add)
	return wrong
}

func addWrongLoops(add func(what string, change func(m *impl.Mains))) {
	for what, loop := range map[string][]int64{
		"of nothing":                   {},
		"of one pipe":                  {1},
		"of one pipe backwards":        {-7},
		"of nought":                    {0},
		"with nought":                  {1, 0, 7},
		"of a pipe beyond":             {1, 8},
		"of a pipe beyond backwards":   {1, -8},
		"of the least":                 {math.MinInt64, 1},
		"of the most":                  {1, math.MaxInt64},
		"of the opposite of the most":  {1, -math.MaxInt64},
		"there and back again":         {1, -1},
		"of a pipe three times":        {1, -1, 1, 7},
		"twice round":                  {1, 7, 1, 7},
		"that is open":                 {1, 2, -3},
		"that is open at its start":    {2, -3, -4},
		"with a gap":                   {1, -3, -4},
		"with a gap at its end":        {1, 2, -3, 4},
		"with its first one turned":    {-1, 2, -3, -4},
		"with one in the middle wrong": {1, -2, -3, -4},
		"that ends elsewhere":          {1, 2, 5},
		"of two side by side":          {1, -7},
	} {
		add("the first Loop is one "+what, func(m *impl.Mains) { m.Loops[0] = loop })
		add("the last Loop is one "+what, func(m *impl.Mains) { m.Loops[2] = loop })
		add("the only Loop is one "+what, func(m *impl.Mains) { m.Loops = [][]int64{loop} })
	}
	add("a Loop without pipes", func(m *impl.Mains) { m.Pipes, m.Loops = nil, [][]int64{{1}} })
	add("an empty Loop without pipes", func(m *impl.Mains) { m.Pipes, m.Loops = nil, [][]int64{nil} })
	add("one Loop too many", func(m *impl.Mains) { m.Loops = slices.Repeat([][]int64{{1, 7}}, impl.MaxLoops+1) })
	add("very many Loops", func(m *impl.Mains) { m.Loops = slices.Repeat([][]int64{{1, 7}}, impl.MaxList+1) })
	add("a very long Loop", func(m *impl.Mains) { m.Loops[1] = slices.Repeat([]int64{1, 7}, impl.MaxList) })
	add("a Loop of more than MaxPipes", func(m *impl.Mains) {
		*m = twins(1, slices.Repeat([]impl.Pipe{plainPipe(0, 1, 1)}, impl.MaxPipes)...)
		m.Loops = [][]int64{append(zigzag(impl.MaxPipes), 1, -2)}
	})
}

// rightMains are at the limits, or of little.
func rightMains() map[string]impl.Mains {
	right := map[string]impl.Mains{
		"a town":      town(),
		"one node":    {Nodes: 1, Wants: []int64{0}},
		"empty lists": {Nodes: 1, Pipes: []impl.Pipe{}, Loops: [][]int64{}, Wants: []int64{1000}},
		"two nodes":   {Nodes: 2, Wants: []int64{0, 0}},
	}
	add := func(what string, change func(m *impl.Mains)) {
		right[what] = changedMains(town(), change)
	}
	for kind := int64(impl.PipePlain); kind <= impl.PipeLimit; kind++ {
		add("all of kind "+decimal(kind), func(m *impl.Mains) {
			for place := range m.Pipes {
				m.Pipes[place] = pipe(kind, m.Pipes[place].From, m.Pipes[place].To, 1000, impl.MaxRun)
			}
		})
	}
	add("nought for Drags and Marks", func(m *impl.Mains) {
		for place := range m.Pipes {
			m.Pipes[place].Drag, m.Pipes[place].Mark = 0, 0
		}
	})
	add("the wants at their limits", func(m *impl.Mains) { m.Wants = []int64{0, 1000, 0, 1000, 1000} })
	add("the Head at its top", func(m *impl.Mains) { m.Head = impl.MaxLevel })
	add("the Head at its bottom", func(m *impl.Mains) { m.Head = -impl.MaxLevel })
	add("no pipes", func(m *impl.Mains) { m.Pipes, m.Loops = nil, nil })
	add("MaxNodes", func(m *impl.Mains) {
		m.Nodes, m.Wants = impl.MaxNodes, make([]int64, impl.MaxNodes)
		m.Pipes = append(m.Pipes, plainPipe(impl.MaxNodes-1, 0, 1), plainPipe(0, impl.MaxNodes-1, 1))
		m.Loops = append(m.Loops, []int64{8, 9})
	})
	add("MaxLoops", func(m *impl.Mains) { m.Loops = slices.Repeat([][]int64{{1, 7}}, impl.MaxLoops) })
	add("a Loop from elsewhere", func(m *impl.Mains) { m.Loops[0] = []int64{-3, -4, 1, 2} })
	add("a Loop the other way", func(m *impl.Mains) { m.Loops[0] = []int64{4, 3, -2, -1} })
	add("a Loop through one node twice", func(m *impl.Mains) {
		m.Loops[0] = []int64{3, 5, 6, -4, 1, 2, -8}
		m.Pipes = append(m.Pipes, m.Pipes[2])
	})
	add("a Loop of MaxPipes", func(m *impl.Mains) {
		*m = twins(1, slices.Repeat([]impl.Pipe{plainPipe(0, 1, 1)}, impl.MaxPipes)...)
		m.Loops = [][]int64{zigzag(impl.MaxPipes)}
	})
	return right
}

func sameRight(t *testing.T, what string, m impl.Mains, want bool) {
	t.Helper()
	before := copiedMains(m)
	if got := impl.MainsRight(m); got != want {
		t.Errorf("MainsRight, %s: got %v, want %v", what, got, want)
	}
	if !sameMains(m, before) {
		t.Errorf("MainsRight, %s: the mains were changed", what)
	}
}

func TestMainsRight(t *testing.T) {
	for what, m := range rightMains() {
		sameRight(t, what, m, true)
	}
	for what, m := range wrongMains() {
		sameRight(t, what, m, false)
	}
}

// plainRing holds each number against the next one, round and round.
func plainRing(m impl.Mains, loop []int64) bool {
	ends := func(number int64) (int64, int64) {
		if number < 0 {
			p := m.Pipes[-number-1]
			return p.To, p.From
		}
		p := m.Pipes[number-1]
		return p.From, p.To
	}
	for i, number := range loop {
		if number == 0 || number > int64(len(m.Pipes)) || number < -int64(len(m.Pipes)) {
			return false
		}
		if slices.Contains(loop[:i], number) || slices.Contains(loop[:i], -number) {
			return false
		}
	}
	for i, number := range loop {
		_, end := ends(number)
		if begin, _ := ends(loop[(i+1)%len(loop)]); begin != end {
			return false
		}
	}
	return len(loop) > 0
}

func TestMainsRightOfAnyLoop(t *testing.T) {
	random := rand.New(rand.NewSource(80))
	rings := 0
	for range 60000 {
		m := town()
		m.Pipes = append(m.Pipes, plainPipe(2, 0, 1), plainPipe(3, 1, 1))
		loop := make([]int64, 1+random.Intn(4))
		for i := range loop {
			loop[i] = random.Int63n(21) - 10
		}
		m.Loops = [][]int64{loop}
		if plainRing(m, loop) {
			rings++
		}
		sameRight(t, "any Loop", m, plainRing(m, loop))
		if t.Failed() {
			t.Fatalf("of the Loop %v", loop)
		}
	}
	if rings < 200 {
		t.Errorf("%d are right: too few to tell", rings)
	}
}

// anyPipe has small Drags and Marks or great ones; most are plain, so that many trees reach all nodes.
func anyPipe(random *rand.Rand, nodes int64, size int64) impl.Pipe {
	kind := int64(impl.PipePlain)
	if random.Intn(3) > 0 {
		kind += random.Int63n(impl.PipeLimit)
	}
	from := random.Int63n(nodes)
	to := (from + 1 + random.Int63n(nodes-1)) % nodes
	return pipe(kind, from, to, random.Int63n(min(size, 1000)+1), random.Int63n(min(size, impl.MaxRun)+1))
}

// anyRing walks from a node over pipes that it has not gone through till it is back, or tells none.
func anyRing(random *rand.Rand, m impl.Mains) []int64 {
	start := random.Int63n(m.Nodes)
	at, loop := start, []int64(nil)
	used := make([]bool, len(m.Pipes))
	for len(loop) == 0 || at != start || random.Intn(3) == 0 {
		var on []int64
		for place, p := range m.Pipes {
			if !used[place] && p.From == at {
				on = append(on, int64(place)+1)
			}
			if !used[place] && p.To == at {
				on = append(on, -int64(place)-1)
			}
		}
		if len(on) == 0 {
			break
		}
		number := on[random.Intn(len(on))]
		loop = append(loop, number)
		if number > 0 {
			used[number-1], at = true, m.Pipes[number-1].To
		} else {
			used[-number-1], at = true, m.Pipes[-number-1].From
		}
	}
	if at != start || len(loop) == 0 {
		return nil
	}
	return loop
}

// anyMains are right, whatever else they are.
func anyMains(random *rand.Rand, size int64) impl.Mains {
	m := impl.Mains{Nodes: 1 + random.Int63n(impl.MaxNodes), Head: random.Int63n(2*impl.MaxLevel+1) - impl.MaxLevel}
	for range m.Nodes {
		m.Wants = append(m.Wants, random.Int63n(min(size, 1000)+1))
	}
	if m.Nodes == 1 {
		return m
	}
	for range random.Intn(impl.MaxPipes + 1) {
		m.Pipes = append(m.Pipes, anyPipe(random, m.Nodes, size))
	}
	for range random.Intn(impl.MaxLoops + 1) {
		if loop := anyRing(random, m); loop != nil {
			m.Loops = append(m.Loops, loop)
		}
	}
	return m
}

// sizes go from mains in which little flows to such as are all at their limits.
func sizes() []int64 {
	return []int64{3, 30, 1000, impl.MaxRun}
}

func TestMainsRightOfAny(t *testing.T) {
	random := rand.New(rand.NewSource(81))
	for i := range 5000 {
		m := anyMains(random, sizes()[i%4])
		sameRight(t, "any", m, true)
		if t.Failed() {
			t.Fatalf("of %+v", m)
		}
	}
}
