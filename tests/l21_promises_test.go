package tests

import (
	"math/rand"
	"slices"
	"sync"
	"testing"

	"loop.example/g00068/impl"
)

// goOn runs a diagram and its code beside one another, and holds both against the history.
func goOn(t *testing.T, p impl.Prog, ins [][]int64) {
	t.Helper()
	h, code := newHistory(p, ins), impl.ProgCode(p)
	byDiagram, byCode := impl.LogicStart(p), impl.LogicStart(p)
	for cycle, list := range ins {
		want := h.told(cycle)
		first, second := impl.LogicCycle(p, byDiagram, list), impl.CodeCycle(code, byCode, list)
		sameCycleOut(t, "the diagram", first, want)
		sameCycleOut(t, "the code", second, want)
		if t.Failed() {
			t.Fatalf("cycle %d of %+v, %v", cycle, p, ins)
		}
		byDiagram, byCode = first.Logic, second.Logic
		if cycle%3 == 2 {
			// Each goes on from what the other one keeps.
			byDiagram, byCode = byCode, byDiagram
		}
	}
}

func TestPromise35Any(t *testing.T) {
	random := rand.New(rand.NewSource(214))
	for range 1200 {
		p := shortDelays(random, anyProg(random, []int{4, 12, 40}[random.Intn(3)]))
		goOn(t, p, anyCycles(random, p, random.Intn(40)))
	}
	for range 20 {
		p := anyProg(random, impl.MaxDiagram)
		goOn(t, p, anyCycles(random, p, 230))
	}
}

// TestPromise35Limits: right programs of all sorts, by ins that stay longer than the longest delay.
func TestPromise35Limits(t *testing.T) {
	for what, p := range rightProgs() {
		for _, truth := range []int64{0, 1} {
			var ins [][]int64
			for cycle := range 210 {
				ins = append(ins, numbers(truth, int(impl.ProgIns(p))))
				if cycle == 103 {
					ins[cycle] = numbers(1-truth, int(impl.ProgIns(p)))
				}
			}
			goOn(t, p, ins)
			if t.Failed() {
				t.Fatal(what)
			}
		}
	}
}

// littleDiagrams tells all Progs of so many blocks, named in order, whose delays are of 1, with all of
// their blocks as Outs, and all Nevers or none.
func littleDiagrams(count int, blocks []impl.LogicBlock, tell func(p impl.Prog)) {
	if len(blocks) < count {
		for _, b := range littleBlocks(string(rune('a'+len(blocks))), int64(len(blocks)), int64(count)) {
			littleDiagrams(count, append(slices.Clone(blocks), b), tell)
		}
		return
	}
	p := impl.Prog{Blocks: blocks}
	for a := range int64(count) {
		p.Outs = append(p.Outs, a)
	}
	tell(p)
	for a := range int64(count) {
		for b := a + 1; b < int64(count); b++ {
			p.Nevers = append(p.Nevers, impl.Pair{A: a, B: b})
		}
	}
	tell(p)
}

func TestPromise35AllLittle(t *testing.T) {
	random := rand.New(rand.NewSource(215))
	total := 0
	for count := range 4 {
		littleDiagrams(count, nil, func(p impl.Prog) {
			total++
			for range 8 {
				goOn(t, p, anyCycles(random, p, 6))
			}
		})
	}
	if total < 1400 {
		t.Errorf("%d programs: too few to tell", total)
	}
}

// TestPromise35AnyLogic: also from a Logic that never comes to be.
func TestPromise35AnyLogic(t *testing.T) {
	random := rand.New(rand.NewSource(216))
	for range 6000 {
		p := anyProg(random, []int{3, 12, impl.MaxDiagram}[random.Intn(3)])
		s, ins := anyLogic(random, p), anyIns(random, p)
		sameCycleOut(t, "any Logic", impl.CodeCycle(impl.ProgCode(p), s, ins), impl.LogicCycle(p, s, ins))
		if t.Failed() {
			t.Fatalf("of %+v, %+v, %v", p, s, ins)
		}
	}
}

// TestPromise35Wrong: what its diagram refuses its code refuses, too, be it with another code.
func TestPromise35Wrong(t *testing.T) {
	code := impl.ProgCode(sluice())
	for what, ins := range wrongIns() {
		if out := impl.CodeCycle(code, stillLogic(10), ins); out.Code == impl.OK {
			t.Errorf("ins: %s: got %+v", what, out)
		}
	}
	for what, s := range wrongLogics() {
		// Only the diagram knows which of the blocks are delays.
		right := len(s.Truths) == 10 && len(s.Counts) == 10 && slices.Min(s.Counts) >= 0 && slices.Max(s.Counts) <= 101 && slices.Min(s.Truths) >= 0 && slices.Max(s.Truths) <= 1
		if out := impl.CodeCycle(code, s, []int64{0, 1}); out.Code == impl.OK && !right {
			t.Errorf("%s: got %+v", what, out)
		}
	}
}

// neverTogether: is no pair of Nevers true among the Outs?
func neverTogether(p impl.Prog, outs []int64) bool {
	for _, n := range p.Nevers {
		if outs[slices.Index(p.Outs, n.A)] == 1 && outs[slices.Index(p.Outs, n.B)] == 1 {
			return false
		}
	}
	return true
}

// TestPromise36: no two that never go together, and once fallen back all false to the end; it does fall
// back only where two would have gone together.
func TestPromise36(t *testing.T) {
	random := rand.New(rand.NewSource(217))
	fell, stood := 0, 0
	for range 3000 {
		p := shortDelays(random, anyProg(random, 14))
		ins := anyCycles(random, p, 30)
		free := changedProg(p, func(p *impl.Prog) { p.Nevers = nil })
		guarded, open := impl.LogicRun(p, ins), impl.LogicRun(free, ins)
		fallen := false
		for cycle, outs := range guarded {
			fallen = fallen || !neverTogether(p, open[cycle])
			if !neverTogether(p, outs) || fallen && slices.Contains(outs, 1) || !fallen && !slices.Equal(outs, open[cycle]) {
				t.Fatalf("cycle %d of %+v, %v: got %v, and %v without Nevers", cycle, p, ins, outs, open[cycle])
			}
		}
		if fallen {
			fell++
		} else if len(p.Nevers) > 0 {
			stood++
		}
	}
	if fell < 300 || stood < 100 {
		t.Errorf("%d fell, %d did not: too few to tell", fell, stood)
	}
}

// TestPromise36ForGood: a Logic that has fallen back stays so by diagram and by code, whatever is handed in.
func TestPromise36ForGood(t *testing.T) {
	random := rand.New(rand.NewSource(218))
	for range 1000 {
		p := anyProg(random, 14)
		s := anyLogic(random, p)
		s.Fallen = true
		code := impl.ProgCode(p)
		for range 8 {
			ins := anyIns(random, p)
			for _, out := range []impl.CycleOut{impl.LogicCycle(p, s, ins), impl.CodeCycle(code, s, ins)} {
				if out.Code != impl.OK || !out.Logic.Fallen || len(out.Outs) != len(p.Outs) || slices.Contains(out.Outs, 1) {
					t.Fatalf("of %+v, %+v, %v: got %+v", p, s, ins, out)
				}
				s = out.Logic
			}
		}
	}
}

// TestCyclesKeepNothing: machines beside one another, some of which can't go on, tell what they tell alone.
func TestCyclesKeepNothing(t *testing.T) {
	code := impl.ProgCode(sluice())
	flood := []int64{0, 1}
	want := plainCycle(sluice(), stillLogic(10), flood)
	var all sync.WaitGroup
	for i := range 40 {
		all.Go(func() {
			for range 20 {
				switch i % 4 {
				case 0:
					sameCycleOut(t, "beside others", impl.CodeCycle(code, stillLogic(10), flood), want)
				case 1:
					sameCycleOut(t, "beside others", impl.CodeCycle(code[:len(code)-1], stillLogic(10), flood), cycleFault(impl.ErrState))
				case 2:
					sameCycleOut(t, "beside others", impl.LogicCycle(sluice(), stillLogic(10), flood), want)
				case 3:
					sameCycleOut(t, "beside others", impl.CodeCycle(code, stillLogic(9), flood), cycleFault(impl.ErrState))
				}
			}
		})
	}
	all.Wait()
}
