package tests

import (
	"math/rand"
	"slices"
	"testing"

	"loop.example/g00068/impl"
)

func op(kind int64) impl.Op {
	return impl.Op{Kind: kind}
}

func opAt(kind int64, a int64) impl.Op {
	return impl.Op{Kind: kind, A: a}
}

func countAt(a int64, b int64) impl.Op {
	return impl.Op{Kind: impl.OpCount, A: a, B: b}
}

func load(place int64) impl.Op {
	return opAt(impl.OpLoad, place)
}

func keep(place int64) impl.Op {
	return opAt(impl.OpKeep, place)
}

func sameCode(t *testing.T, what string, p impl.Prog, want ...impl.Op) {
	t.Helper()
	what = "ProgCode, " + what
	watchedProg(t, what, p, func(p impl.Prog) {
		t.Helper()
		first := impl.ProgCode(p)
		if !slices.Equal(first, want) {
			t.Errorf("%s: got %v, want %v", what, first, want)
		}
		for i := range first {
			first[i] = impl.Op{Kind: -9, A: -9, B: -9}
		}
		if again := impl.ProgCode(p); !slices.Equal(again, want) {
			t.Errorf("%s, once more: got %v, want %v", what, again, want)
		}
	})
}

func TestProgCodeByHand(t *testing.T) {
	a, b := []impl.Op{op(impl.OpIn), keep(0)}, []impl.Op{op(impl.OpIn), keep(1)}
	two := slices.Concat(a, b)
	sameCode(t, "none", impl.Prog{})
	sameCode(t, "one in", progOf(blockIn("a")), a...)
	sameCode(t, "two ins", progOf(blockIn("a"), blockIn("b")), two...)
	sameCode(t, "and", progOf(blockIn("a"), blockIn("b"), block(impl.BlockAnd, "c", 1, 0)), append(two, load(1), load(0), op(impl.OpAnd), keep(2))...)
	sameCode(t, "or", progOf(blockIn("a"), blockIn("b"), block(impl.BlockOr, "c", 0, 1)), append(two, load(0), load(1), op(impl.OpOr), keep(2))...)
	sameCode(t, "not", progOf(blockIn("a"), blockIn("b"), block(impl.BlockNot, "c", 1, 0)), append(two, load(1), op(impl.OpNot), keep(2))...)
	for place := range int64(3) {
		p := progOf(blockIn("a"), blockIn("b"), block(impl.BlockPrev, "c", place, 0))
		sameCode(t, "prev", p, append(two, opAt(impl.OpOld, place), keep(2))...)
	}
	latch := []impl.Op{opAt(impl.OpOld, 2), load(1), op(impl.OpOr), load(0), op(impl.OpNot), op(impl.OpAnd), keep(2)}
	sameCode(t, "latch", progOf(blockIn("a"), blockIn("b"), block(impl.BlockLatch, "c", 1, 0)), append(two, latch...)...)
	for _, cycles := range []int64{1, 7, impl.MaxDelay} {
		p := progOf(blockIn("a"), blockIn("b"), block(impl.BlockDelay, "c", 1, cycles))
		sameCode(t, "delay", p, append(two, load(1), countAt(2, cycles), keep(2))...)
	}
	outs := progOf(blockIn("a"), blockIn("b"))
	outs.Outs = []int64{1}
	sameCode(t, "an out", outs, append(two, load(1), op(impl.OpOut))...)
	outs.Outs, outs.Nevers = []int64{0, 1}, []impl.Pair{{A: 0, B: 1}}
	sameCode(t, "a never", outs, append(two, load(0), load(1), op(impl.OpAnd), op(impl.OpGuard), load(0), op(impl.OpOut), load(1), op(impl.OpOut))...)
}

func TestProgCodeSluice(t *testing.T) {
	sameCode(t, "a sluice", sluice(),
		op(impl.OpIn), keep(0),
		op(impl.OpIn), keep(1),
		opAt(impl.OpOld, 7), keep(2),
		load(0), load(1), op(impl.OpAnd), keep(3),
		load(1), load(0), op(impl.OpOr), keep(4),
		load(1), op(impl.OpNot), keep(5),
		opAt(impl.OpOld, 6), keep(6),
		opAt(impl.OpOld, 7), load(3), op(impl.OpOr), load(5), op(impl.OpNot), op(impl.OpAnd), keep(7),
		load(4), countAt(8, 30), keep(8),
		opAt(impl.OpOld, 0), keep(9),
		load(3), load(5), op(impl.OpAnd), op(impl.OpGuard),
		load(3), load(9), op(impl.OpAnd), op(impl.OpGuard),
		load(5), load(7), op(impl.OpAnd), op(impl.OpGuard),
		load(3), op(impl.OpOut), load(5), op(impl.OpOut), load(7), op(impl.OpOut), load(9), op(impl.OpOut),
	)
}

func TestProgCodeWrong(t *testing.T) {
	for what, p := range wrongProgs() {
		sameCode(t, what, p)
	}
}

// plainCode fills what all blocks of a kind have in common.
func plainCode(p impl.Prog) []impl.Op {
	var ops []impl.Op
	for place, b := range p.Blocks {
		self, a, other := int64(place), load(b.A), load(b.B)
		ops = append(ops, map[int64][]impl.Op{
			impl.BlockIn:    {op(impl.OpIn)},
			impl.BlockAnd:   {a, other, op(impl.OpAnd)},
			impl.BlockOr:    {a, other, op(impl.OpOr)},
			impl.BlockNot:   {a, op(impl.OpNot)},
			impl.BlockPrev:  {opAt(impl.OpOld, b.A)},
			impl.BlockLatch: {opAt(impl.OpOld, self), a, op(impl.OpOr), other, op(impl.OpNot), op(impl.OpAnd)},
			impl.BlockDelay: {a, countAt(self, b.B)},
		}[b.Kind]...)
		ops = append(ops, keep(self))
	}
	for _, n := range p.Nevers {
		ops = append(ops, load(n.A), load(n.B), op(impl.OpAnd), op(impl.OpGuard))
	}
	for _, place := range p.Outs {
		ops = append(ops, load(place), op(impl.OpOut))
	}
	return ops
}

func TestProgCodeOfAny(t *testing.T) {
	if got := len(impl.ProgCode(longest())); got != 2+99*7+100*4+100*2 {
		t.Errorf("as much as may be: %d ops", got)
	}
	for what, p := range rightProgs() {
		sameCode(t, what, p, plainCode(p)...)
	}
	random := rand.New(rand.NewSource(211))
	for range 3000 {
		p := anyProg(random, []int{4, 12, impl.MaxDiagram}[random.Intn(3)])
		sameCode(t, "any", p, plainCode(p)...)
	}
}
