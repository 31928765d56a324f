package tests

import (
	"math"
	"math/rand"
	"slices"
	"testing"

	"loop.example/g00068/impl"
)

func sameProgIns(t *testing.T, what string, p impl.Prog, want int64) {
	t.Helper()
	watchedProg(t, "ProgIns, "+what, p, func(p impl.Prog) {
		t.Helper()
		if got := impl.ProgIns(p); got != want {
			t.Errorf("ProgIns, %s: got %d, want %d", what, got, want)
		}
	})
}

// sameUses asks twice, and spoils the first answer, which is to be its own memory.
func sameUses(t *testing.T, what string, p impl.Prog, place int64, want ...int64) {
	t.Helper()
	what = "ProgUses, " + what + ", of " + decimal(place)
	watchedProg(t, what, p, func(p impl.Prog) {
		t.Helper()
		first := impl.ProgUses(p, place)
		samePlaces(t, what, first, want)
		for i := range first {
			first[i] = -9
		}
		samePlaces(t, what+", once more", impl.ProgUses(p, place), want)
	})
}

func TestProgInsByHand(t *testing.T) {
	sameProgIns(t, "none", impl.Prog{}, 0)
	sameProgIns(t, "a sluice", sluice(), 2)
	sameProgIns(t, "one in", progOf(blockIn("a")), 1)
	sameProgIns(t, "one prev", progOf(block(impl.BlockPrev, "a", 0, 0)), 0)
	sameProgIns(t, "the last one", progOf(block(impl.BlockPrev, "a", 1, 0), blockIn("b")), 1)
	sameProgIns(t, "MaxDiagram", manyIns(impl.MaxDiagram), impl.MaxDiagram)
	sameProgIns(t, "as much as may be", longest(), 1)
	sameProgIns(t, "one more than MaxDiagram", manyIns(impl.MaxDiagram+1), 0)
}

func TestProgUsesByHand(t *testing.T) {
	p := sluice()
	for place, want := range [][]int64{nil, nil, nil, {0, 1}, {0, 1}, {1}, nil, {0, 1, 3, 5}, {0, 1, 4}, nil} {
		sameUses(t, "a sluice", p, int64(place), want...)
	}
	for what, place := range beside(0, 9) {
		sameUses(t, "a sluice, a block "+what, p, place)
	}
	for _, place := range []int64{math.MinInt64, -1, 0, 1} {
		sameUses(t, "none", impl.Prog{}, place)
	}
	// A prev is leant on, and what it looks at is not, be it ahead or not.
	over := progOf(blockIn("a"), block(impl.BlockPrev, "b", 0, 0), block(impl.BlockPrev, "c", 4, 0), block(impl.BlockAnd, "d", 1, 2), block(impl.BlockNot, "e", 3, 0))
	for place, want := range [][]int64{nil, nil, nil, {1, 2}, {1, 2, 3}} {
		sameUses(t, "over prevs", over, int64(place), want...)
	}
	// B of a delay is no block, whatever place it would be.
	late := progOf(blockIn("a"), blockIn("b"), block(impl.BlockDelay, "c", 0, 1), block(impl.BlockDelay, "d", 1, 2), block(impl.BlockDelay, "e", 2, 1))
	for place, want := range [][]int64{nil, nil, {0}, {1}, {0, 2}} {
		sameUses(t, "delays", late, int64(place), want...)
	}
	both := progOf(blockIn("a"), blockIn("b"), blockIn("c"), block(impl.BlockLatch, "d", 2, 1), block(impl.BlockOr, "e", 0, 0), block(impl.BlockLatch, "f", 4, 3))
	for place, want := range [][]int64{nil, nil, nil, {1, 2}, {0}, {0, 1, 2, 3, 4}} {
		sameUses(t, "both sides", both, int64(place), want...)
	}
}

func TestProgUsesLongest(t *testing.T) {
	var ahead []int64
	for place := range int64(impl.MaxDiagram) {
		sameUses(t, "as much as may be", longest(), place, ahead...)
		ahead = append(ahead, place)
	}
	sameUses(t, "as much as may be", longest(), impl.MaxDiagram)
}

func TestProgUsesWrong(t *testing.T) {
	for what, p := range wrongProgs() {
		sameProgIns(t, what, p, 0)
		for _, place := range []int64{-1, 0, 3, 7, 9, 10, int64(len(p.Blocks)) - 1} {
			sameUses(t, what, p, place)
		}
	}
}

// plainUses asks of each block ahead whether a way leads to it.
func plainUses(p impl.Prog, place int64) []int64 {
	var uses []int64
	for ahead := range place {
		if plainLeans(p, place, ahead) {
			uses = append(uses, ahead)
		}
	}
	return uses
}

func plainLeans(p impl.Prog, place int64, on int64) bool {
	b := p.Blocks[place]
	next := map[int64][]int64{
		impl.BlockAnd: {b.A, b.B}, impl.BlockOr: {b.A, b.B}, impl.BlockLatch: {b.A, b.B}, impl.BlockNot: {b.A}, impl.BlockDelay: {b.A},
	}[b.Kind]
	return slices.ContainsFunc(next, func(n int64) bool { return n == on || n > on && plainLeans(p, n, on) })
}

func TestProgUsesOfAny(t *testing.T) {
	random := rand.New(rand.NewSource(202))
	for range 1500 {
		p := anyProg(random, 14)
		ins := int64(0)
		for place, b := range p.Blocks {
			sameUses(t, "any", p, int64(place), plainUses(p, int64(place))...)
			if b.Kind == impl.BlockIn {
				ins++
			}
		}
		sameProgIns(t, "any", p, ins)
		if t.Failed() {
			t.Fatalf("of %+v", p)
		}
	}
}
