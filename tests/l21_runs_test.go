package tests

import (
	"math/rand"
	"slices"
	"testing"

	"loop.example/g00068/impl"
)

func sameLists(a [][]int64, b [][]int64) bool {
	return slices.EqualFunc(a, b, slices.Equal[[]int64])
}

// sameLogicRun calls with ins of its own, and writes over each list of the answer in turn.
func sameLogicRun(t *testing.T, what string, p impl.Prog, ins [][]int64, want [][]int64) {
	t.Helper()
	what = "LogicRun, " + what
	watchedProg(t, what, p, func(p impl.Prog) {
		t.Helper()
		var own [][]int64
		for _, list := range ins {
			own = append(own, roomyOf(list, -7))
		}
		got := impl.LogicRun(p, own)
		if !sameLists(got, want) {
			t.Errorf("%s: got %v, want %v", what, got, want)
			return
		}
		for i := range got {
			spoilNumbers(got[i])
			if !sameLists(got[i+1:], want[i+1:]) {
				t.Errorf("%s: two lists share memory", what)
			}
		}
		for i, list := range ins {
			if !keptOf(own[i], list, -7) {
				t.Errorf("%s: the ins were changed", what)
			}
		}
		if again := impl.LogicRun(p, own); !sameLists(again, want) {
			t.Errorf("%s, once more: got %v, want %v", what, again, want)
		}
	})
}

func outsOf(p impl.Prog, outs ...int64) impl.Prog {
	return changedProg(p, func(p *impl.Prog) { p.Outs = outs })
}

func TestLogicRunByHand(t *testing.T) {
	sameLogicRun(t, "no cycles", sluice(), nil, nil)
	sameLogicRun(t, "an empty list", sluice(), [][]int64{}, nil)
	sameLogicRun(t, "none", impl.Prog{}, [][]int64{nil, {}, nil}, [][]int64{nil, nil, nil})
	sameLogicRun(t, "no outs", progOf(blockIn("a")), [][]int64{{1}, {0}}, [][]int64{nil, nil})
	not := outsOf(progOf(blockIn("a"), block(impl.BlockNot, "b", 0, 0)), 1)
	sameLogicRun(t, "not", not, [][]int64{{0}, {1}, {1}, {0}}, [][]int64{{1}, {0}, {0}, {1}})
	turns := outsOf(progOf(block(impl.BlockPrev, "was", 1, 0), block(impl.BlockNot, "is", 0, 0)), 0, 1)
	sameLogicRun(t, "by turns", turns, [][]int64{{}, {}, nil, {}}, [][]int64{{0, 1}, {1, 0}, {0, 1}, {1, 0}})
	self := outsOf(progOf(block(impl.BlockPrev, "a", 0, 0)), 0)
	sameLogicRun(t, "a prev of itself", self, [][]int64{{}, {}, {}}, [][]int64{{0}, {0}, {0}})
	chain := outsOf(progOf(block(impl.BlockPrev, "a", 1, 0), block(impl.BlockPrev, "b", 2, 0), blockIn("c")), 0, 1, 2)
	sameLogicRun(t, "prevs of each other", chain, [][]int64{{1}, {0}, {0}, {1}}, [][]int64{{0, 0, 1}, {0, 1, 0}, {1, 0, 0}, {0, 0, 1}})
	back := outsOf(progOf(blockIn("c"), block(impl.BlockPrev, "b", 0, 0), block(impl.BlockPrev, "a", 1, 0)), 0, 1, 2)
	sameLogicRun(t, "prevs of blocks ahead", back, [][]int64{{1}, {0}, {0}, {1}}, [][]int64{{1, 0, 0}, {0, 1, 0}, {0, 0, 1}, {1, 0, 0}})
	latch := outsOf(progOf(blockIn("on"), blockIn("off"), block(impl.BlockLatch, "l", 0, 1)), 2)
	sameLogicRun(t, "a latch", latch, [][]int64{{0, 0}, {1, 0}, {0, 0}, {0, 1}, {0, 0}, {1, 1}, {0, 0}}, [][]int64{{0}, {1}, {1}, {0}, {0}, {0}, {0}})
	delay := outsOf(progOf(blockIn("a"), block(impl.BlockDelay, "d", 0, 2)), 1)
	sameLogicRun(t, "a delay", delay, [][]int64{{1}, {1}, {0}, {1}, {1}, {1}, {1}, {0}, {1}}, [][]int64{{0}, {0}, {0}, {0}, {0}, {1}, {1}, {0}, {0}})
}

func TestLogicRunFalls(t *testing.T) {
	p := outsOf(progOf(blockIn("a"), block(impl.BlockDelay, "d", 0, 1)), 0, 1)
	p.Nevers = []impl.Pair{{A: 0, B: 1}}
	sameLogicRun(t, "falls", p, [][]int64{{1}, {0}, {1}, {1}, {0}, {1}}, [][]int64{{1, 0}, {0, 0}, {1, 0}, {0, 0}, {0, 0}, {0, 0}})
	sameLogicRun(t, "falls at once", pairs(), [][]int64{{1, 1, 0}, {1, 0, 1}, {0, 1, 0}}, [][]int64{{0, 0, 0}, {0, 0, 0}, {0, 0, 0}})
	sameLogicRun(t, "falls by the last one", pairs(), [][]int64{{1, 0, 1}, {0, 1, 0}, {0, 1, 1}, {0, 0, 1}}, [][]int64{{1, 0, 1}, {0, 1, 0}, {0, 0, 0}, {0, 0, 0}})
	sameLogicRun(t, "one behind the other", pairs(), [][]int64{{1, 0, 0}, {0, 1, 0}, {0, 0, 1}, {0, 1, 0}}, [][]int64{{1, 0, 0}, {0, 1, 0}, {0, 0, 1}, {0, 1, 0}})
}

func TestLogicRunLimits(t *testing.T) {
	p := outsOf(progOf(blockIn("a"), block(impl.BlockDelay, "d", 0, impl.MaxRunCycles-1)), 0, 1)
	on := slices.Repeat([][]int64{{1}}, impl.MaxRunCycles)
	want := slices.Repeat([][]int64{{1, 0}}, impl.MaxRunCycles)
	want[impl.MaxRunCycles-1] = []int64{1, 1}
	sameLogicRun(t, "MaxRunCycles", p, on, want)
	sameLogicRun(t, "one above MaxRunCycles", p, append(on, []int64{1}), nil)
	sameLogicRun(t, "MaxList cycles", p, slices.Repeat([][]int64{{1}}, impl.MaxList), nil)
	sameLogicRun(t, "very many cycles", impl.Prog{}, make([][]int64, 30000), nil)
	sameLogicRun(t, "MaxDelay is longer than a run", outsOf(changedProg(p, func(p *impl.Prog) { p.Blocks[1].B = impl.MaxDelay }), 1), on, slices.Repeat([][]int64{{0}}, impl.MaxRunCycles))
	long := longest()
	sameLogicRun(t, "as much as may be", long, slices.Repeat([][]int64{{0}}, impl.MaxRunCycles), slices.Repeat([][]int64{numbers(0, 100)}, impl.MaxRunCycles))
}

func TestLogicRunWrong(t *testing.T) {
	for what, p := range wrongProgs() {
		sameLogicRun(t, what, p, nil, nil)
		sameLogicRun(t, what+", no ins", p, [][]int64{nil}, nil)
		sameLogicRun(t, what+", one in", p, [][]int64{{0}}, nil)
		sameLogicRun(t, what+", two ins", p, [][]int64{{0, 1}, {0, 1}}, nil)
		sameLogicRun(t, what+", all ins", p, [][]int64{numbers(0, len(p.Blocks))}, nil)
	}
	good := []int64{0, 1}
	wrong := wrongIns()
	wrong["above MaxList"] = numbers(0, impl.MaxList+1)
	for what, ins := range wrong {
		sameLogicRun(t, "only ins: "+what, sluice(), [][]int64{ins}, nil)
		sameLogicRun(t, "the first ins: "+what, sluice(), [][]int64{ins, good, good}, nil)
		sameLogicRun(t, "the last ins: "+what, sluice(), [][]int64{good, good, ins}, nil)
		sameLogicRun(t, "behind a fall, ins: "+what, sluice(), [][]int64{{1, 1}, good, ins}, nil)
	}
}

// history is all that a program was handed in, from the start on. What it asks it asks of the table of
// chapter 21 alone, back through the cycles: nothing is kept but what was asked already.
type history struct {
	p     impl.Prog
	ins   [][]int64
	known map[[2]int]bool
}

func newHistory(p impl.Prog, ins [][]int64) *history {
	return &history{p: p, ins: ins, known: map[[2]int]bool{}}
}

func (h *history) is(place int64, cycle int) bool {
	if cycle < 0 {
		return false
	}
	key := [2]int{int(place), cycle}
	if truth, done := h.known[key]; done {
		return truth
	}
	truth := h.find(place, cycle)
	h.known[key] = truth
	return truth
}

func (h *history) find(place int64, cycle int) bool {
	b := h.p.Blocks[place]
	switch b.Kind {
	case impl.BlockIn:
		return h.ins[cycle][insAhead(h.p, place)] == 1
	case impl.BlockAnd:
		return h.is(b.A, cycle) && h.is(b.B, cycle)
	case impl.BlockOr:
		return h.is(b.A, cycle) || h.is(b.B, cycle)
	case impl.BlockNot:
		return !h.is(b.A, cycle)
	case impl.BlockPrev:
		return h.is(b.A, cycle-1)
	case impl.BlockLatch:
		return !h.is(b.B, cycle) && (h.is(b.A, cycle) || h.is(place, cycle-1))
	}
	for back := range int(b.B) + 1 {
		if !h.is(b.A, cycle-back) {
			return false
		}
	}
	return true
}

// run is how many cycles up to this one a block was true, one behind the other.
func (h *history) run(place int64, cycle int) int64 {
	count := int64(0)
	for h.is(place, cycle) {
		count++
		cycle--
	}
	return count
}

func (h *history) fallen(cycle int) bool {
	for c := range cycle + 1 {
		for _, n := range h.p.Nevers {
			if h.is(n.A, c) && h.is(n.B, c) {
				return true
			}
		}
	}
	return false
}

// told is what is to be told behind a cycle.
func (h *history) told(cycle int) impl.CycleOut {
	out := cycleOut(stillLogic(len(h.p.Blocks)))
	for place, b := range h.p.Blocks {
		out.Logic.Truths[place] = asNumber(h.is(int64(place), cycle))
		if b.Kind == impl.BlockDelay {
			out.Logic.Counts[place] = min(h.run(b.A, cycle), 101)
		}
	}
	out.Logic.Fallen = h.fallen(cycle)
	for _, place := range h.p.Outs {
		out.Outs = append(out.Outs, asNumber(h.is(place, cycle) && !out.Logic.Fallen))
	}
	return out
}

// anyCycles are so many lists of ins; they stay as they are for a while, so that delays come to be true.
func anyCycles(random *rand.Rand, p impl.Prog, count int) [][]int64 {
	seldom := 1 + random.Intn(12)
	cycles := [][]int64{anyIns(random, p)}
	for len(cycles) < count {
		next := slices.Clone(cycles[len(cycles)-1])
		for i := range next {
			if random.Intn(seldom) == 0 {
				next[i] = random.Int63n(2)
			}
		}
		cycles = append(cycles, next)
	}
	return cycles[:count]
}

// shortDelays lets delays come to be true within few cycles.
func shortDelays(random *rand.Rand, p impl.Prog) impl.Prog {
	return changedProg(p, func(p *impl.Prog) {
		for i, b := range p.Blocks {
			if b.Kind == impl.BlockDelay && random.Intn(3) > 0 {
				p.Blocks[i].B = 1 + random.Int63n(4)
			}
		}
	})
}

func TestLogicRunOfAny(t *testing.T) {
	random := rand.New(rand.NewSource(213))
	for range 400 {
		p := shortDelays(random, anyProg(random, []int{4, 12, 30}[random.Intn(3)]))
		ins := anyCycles(random, p, random.Intn(impl.MaxRunCycles+1))
		h := newHistory(p, ins)
		var want [][]int64
		for cycle := range ins {
			want = append(want, h.told(cycle).Outs)
		}
		sameLogicRun(t, "any", p, ins, want)
		if t.Failed() {
			t.Fatalf("of %+v, %v", p, ins)
		}
	}
}
