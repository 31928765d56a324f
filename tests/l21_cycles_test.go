package tests

import (
	"math/rand"
	"slices"
	"testing"

	"loop.example/g00068/impl"
)

func logicOf(truths []int64, counts []int64, fallen bool) impl.Logic {
	return impl.Logic{Truths: truths, Counts: counts, Fallen: fallen}
}

// stillLogic is that of a program of so many blocks ahead of all cycles.
func stillLogic(count int) impl.Logic {
	return logicOf(numbers(0, count), numbers(0, count), false)
}

func changedLogic(s impl.Logic, change func(s *impl.Logic)) impl.Logic {
	s.Truths, s.Counts = slices.Clone(s.Truths), slices.Clone(s.Counts)
	change(&s)
	return s
}

func isLogic(a impl.Logic, b impl.Logic) bool {
	return slices.Equal(a.Truths, b.Truths) && slices.Equal(a.Counts, b.Counts) && a.Fallen == b.Fallen
}

func cycleOut(s impl.Logic, outs ...int64) impl.CycleOut {
	return impl.CycleOut{Logic: s, Outs: outs}
}

func cycleFault(code int64) impl.CycleOut {
	return impl.CycleOut{Code: code}
}

func sameCycleOut(t *testing.T, what string, got impl.CycleOut, want impl.CycleOut) {
	t.Helper()
	if got.Code != want.Code || !isLogic(got.Logic, want.Logic) || !slices.Equal(got.Outs, want.Outs) {
		t.Errorf("%s: got %+v, want %+v", what, got, want)
	}
}

// spoilNumbers writes over all that a list could reach.
func spoilNumbers(list []int64) {
	list = list[:cap(list)]
	for i := range list {
		list[i] = -9
	}
}

// watchedKept calls with a Logic and ins of its own, and tells if they were changed. Each list of the
// answer is written over, and must not be one of those, nor of another list of the answer.
func watchedKept(t *testing.T, what string, s impl.Logic, ins []int64, call func(s impl.Logic, ins []int64) impl.CycleOut) {
	t.Helper()
	own := logicOf(roomyOf(s.Truths, -7), roomyOf(s.Counts, -7), s.Fallen)
	ownIns := roomyOf(ins, -7)
	out := call(own, ownIns)
	lists := [][]int64{out.Logic.Truths, out.Logic.Counts, out.Outs}
	for i, list := range lists {
		others := slices.Delete(slices.Clone(lists), i, i+1)
		first, second := slices.Clone(others[0]), slices.Clone(others[1])
		spoilNumbers(list)
		if !slices.Equal(first, others[0]) || !slices.Equal(second, others[1]) {
			t.Errorf("%s: two lists of the answer share memory", what)
		}
	}
	if !keptOf(own.Truths, s.Truths, -7) || !keptOf(own.Counts, s.Counts, -7) || !keptOf(ownIns, ins, -7) {
		t.Errorf("%s: the Logic or the ins were changed", what)
	}
}

func sameCycle(t *testing.T, what string, p impl.Prog, s impl.Logic, ins []int64, want impl.CycleOut) {
	t.Helper()
	what = "LogicCycle, " + what
	watchedProg(t, what, p, func(p impl.Prog) {
		t.Helper()
		watchedKept(t, what, s, ins, func(s impl.Logic, ins []int64) impl.CycleOut {
			t.Helper()
			out := impl.LogicCycle(p, s, ins)
			sameCycleOut(t, what, out, want)
			return out
		})
	})
}

func sameLogicStart(t *testing.T, what string, p impl.Prog, want impl.Logic) {
	t.Helper()
	what = "LogicStart, " + what
	watchedProg(t, what, p, func(p impl.Prog) {
		t.Helper()
		got := impl.LogicStart(p)
		if !isLogic(got, want) {
			t.Errorf("%s: got %+v, want %+v", what, got, want)
		}
		spoilNumbers(got.Truths)
		if !slices.Equal(got.Counts, want.Counts) {
			t.Errorf("%s: Counts share memory with Truths", what)
		}
		spoilNumbers(got.Counts)
		if again := impl.LogicStart(p); !isLogic(again, want) {
			t.Errorf("%s, once more: got %+v, want %+v", what, again, want)
		}
	})
}

func TestLogicStart(t *testing.T) {
	sameLogicStart(t, "none", impl.Prog{}, impl.Logic{})
	sameLogicStart(t, "one in", progOf(blockIn("a")), stillLogic(1))
	for what, p := range rightProgs() {
		sameLogicStart(t, what, p, stillLogic(len(p.Blocks)))
	}
	for what, p := range wrongProgs() {
		sameLogicStart(t, what, p, impl.Logic{})
	}
}

// TestLogicCycleTable: the table of the truths, each kind by all that it looks at; the block of it is the third one.
func TestLogicCycleTable(t *testing.T) {
	for bits := range int64(8) {
		a, b, old := bits&1, bits>>1&1, bits>>2
		truths := map[int64]int64{
			impl.BlockAnd: []int64{0, 0, 0, 1}[a+2*b], impl.BlockOr: []int64{0, 1, 1, 1}[a+2*b],
			impl.BlockLatch: []int64{0, 1, 0, 0, 1, 1, 0, 0}[bits],
		}
		for kind, truth := range truths {
			p := progOf(blockIn("a"), blockIn("b"), block(kind, "c", 0, 1))
			p.Outs = []int64{2}
			s := logicOf([]int64{1 - a, 1 - b, old}, numbers(0, 3), false)
			sameCycle(t, "Kind "+decimal(kind)+" of bits "+decimal(bits), p, s, []int64{a, b}, cycleOut(logicOf([]int64{a, b, truth}, numbers(0, 3), false), truth))
		}
		for _, look := range []int64{0, 1} {
			p := progOf(blockIn("a"), blockIn("b"), block(impl.BlockNot, "c", look, 0))
			p.Outs = []int64{0, 1, 2}
			truth := 1 - []int64{a, b}[look]
			s := logicOf([]int64{1 - a, 1 - b, old}, numbers(0, 3), false)
			sameCycle(t, "not, of bits "+decimal(bits), p, s, []int64{a, b}, cycleOut(logicOf([]int64{a, b, truth}, numbers(0, 3), false), a, b, truth))
		}
		for look, truth := range []int64{a, b, old} {
			p := progOf(blockIn("x"), block(impl.BlockPrev, "y", int64(look), 0), blockIn("z"))
			p.Outs = []int64{1}
			s := logicOf([]int64{a, b, old}, numbers(0, 3), false)
			sameCycle(t, "prev, of bits "+decimal(bits), p, s, []int64{1 - a, 1 - old}, cycleOut(logicOf([]int64{1 - a, truth, 1 - old}, numbers(0, 3), false), truth))
		}
		same := progOf(blockIn("a"), block(impl.BlockAnd, "b", 0, 0), block(impl.BlockOr, "c", 0, 0), block(impl.BlockLatch, "d", 0, 0))
		sameCycle(t, "of itself, bits "+decimal(bits), same, logicOf([]int64{b, old, b, old}, numbers(0, 4), false), []int64{a}, cycleOut(logicOf([]int64{a, a, a, old * (1 - a)}, numbers(0, 4), false)))
	}
}

// TestLogicCycleDelay: a count goes up to MaxDelay and 1, or to nought, and is held against B.
func TestLogicCycleDelay(t *testing.T) {
	most := int64(impl.MaxDelay + 1)
	for _, b := range []int64{1, 2, 50, impl.MaxDelay - 1, impl.MaxDelay} {
		p := progOf(blockIn("a"), block(impl.BlockDelay, "b", 0, b), block(impl.BlockNot, "c", 0, 0), block(impl.BlockDelay, "d", 2, b))
		p.Outs = []int64{1, 3}
		for count := range most + 1 {
			next := min(count+1, most)
			truth := int64(0)
			if next >= b+1 {
				truth = 1
			}
			for _, old := range []int64{0, 1} {
				s := logicOf([]int64{old, 1 - old, old, old}, []int64{0, count, 0, count}, false)
				what := "a delay of " + decimal(b) + ", a count of " + decimal(count)
				sameCycle(t, what+", on", p, s, []int64{1}, cycleOut(logicOf([]int64{1, truth, 0, 0}, []int64{0, next, 0, 0}, false), truth, 0))
				sameCycle(t, what+", off", p, s, []int64{0}, cycleOut(logicOf([]int64{0, 0, 1, truth}, []int64{0, 0, 0, next}, false), 0, truth))
			}
		}
	}
}

// pairs has three ins, all of them outs, of which the first never goes with the second, nor the second with the third.
func pairs() impl.Prog {
	p := progOf(blockIn("a"), blockIn("b"), blockIn("c"))
	p.Outs, p.Nevers = []int64{0, 1, 2}, []impl.Pair{{A: 0, B: 1}, {A: 1, B: 2}}
	return p
}

func TestLogicCycleFalls(t *testing.T) {
	for bits := range int64(8) {
		truths := []int64{bits & 1, bits >> 1 & 1, bits >> 2}
		falls := truths[1] == 1 && truths[0]+truths[2] > 0
		outs := slices.Clone(truths)
		if falls {
			outs = numbers(0, 3)
		}
		for _, old := range []int64{0, 1} {
			// What was true ahead of the cycle does not count: only what is true together now.
			s := logicOf(numbers(old, 3), numbers(0, 3), false)
			sameCycle(t, "bits "+decimal(bits), pairs(), s, truths, cycleOut(logicOf(truths, numbers(0, 3), falls), outs...))
			s.Fallen = true
			sameCycle(t, "fallen, bits "+decimal(bits), pairs(), s, truths, cycleOut(logicOf(truths, numbers(0, 3), true), 0, 0, 0))
		}
	}
	free := pairs()
	free.Nevers = nil
	sameCycle(t, "no nevers", free, stillLogic(3), []int64{1, 1, 1}, cycleOut(logicOf([]int64{1, 1, 1}, numbers(0, 3), false), 1, 1, 1))
	free.Outs = nil
	sameCycle(t, "no outs", free, stillLogic(3), []int64{1, 0, 1}, cycleOut(logicOf([]int64{1, 0, 1}, numbers(0, 3), false)))
	sameCycle(t, "fallen, no outs", free, logicOf(numbers(0, 3), numbers(0, 3), true), []int64{1, 0, 1}, cycleOut(logicOf([]int64{1, 0, 1}, numbers(0, 3), true)))
	some := pairs()
	some.Outs, some.Nevers = []int64{0, 2}, []impl.Pair{{A: 0, B: 2}}
	sameCycle(t, "some outs", some, stillLogic(3), []int64{1, 1, 0}, cycleOut(logicOf([]int64{1, 1, 0}, numbers(0, 3), false), 1, 0))
	sameCycle(t, "some outs, falling", some, stillLogic(3), []int64{1, 1, 1}, cycleOut(logicOf([]int64{1, 1, 1}, numbers(0, 3), true), 0, 0))
}

func TestLogicCycleByHand(t *testing.T) {
	sameCycle(t, "none", impl.Prog{}, impl.Logic{}, nil, impl.CycleOut{})
	sameCycle(t, "empty lists", impl.Prog{}, logicOf([]int64{}, []int64{}, false), []int64{}, impl.CycleOut{})
	sameCycle(t, "none, fallen", impl.Prog{}, logicOf(nil, nil, true), nil, cycleOut(logicOf(nil, nil, true)))
	// open flood was both one dry self stays late back; outs both dry stays back.
	s := logicOf([]int64{1, 0, 0, 0, 1, 1, 1, 1, 0, 0}, []int64{0, 0, 0, 0, 0, 0, 0, 0, 29, 0}, false)
	sameCycle(t, "a sluice, dry", sluice(), s, []int64{1, 0}, cycleOut(logicOf([]int64{1, 0, 1, 0, 1, 1, 1, 0, 0, 1}, []int64{0, 0, 0, 0, 0, 0, 0, 0, 30, 0}, false), 0, 1, 0, 1))
	s.Counts[8] = 30
	sameCycle(t, "a sluice, flooded", sluice(), s, []int64{0, 1}, cycleOut(logicOf([]int64{0, 1, 1, 0, 1, 0, 1, 1, 1, 1}, []int64{0, 0, 0, 0, 0, 0, 0, 0, 31, 0}, false), 0, 0, 1, 1))
	sameCycle(t, "a sluice, falling", sluice(), s, []int64{1, 1}, cycleOut(logicOf([]int64{1, 1, 1, 1, 1, 0, 1, 1, 1, 1}, []int64{0, 0, 0, 0, 0, 0, 0, 0, 31, 0}, true), 0, 0, 0, 0))
	sameCycle(t, "a sluice, still", sluice(), stillLogic(10), []int64{0, 0}, cycleOut(logicOf([]int64{0, 0, 0, 0, 0, 1, 0, 0, 0, 0}, numbers(0, 10), false), 0, 1, 0, 0))
	many := manyIns(impl.MaxDiagram)
	ins := slices.Repeat([]int64{1, 0, 0, 1}, 25)
	sameCycle(t, "MaxDiagram", many, stillLogic(100), ins, cycleOut(logicOf(ins, numbers(0, 100), false)))
	// Latches that hold all ahead of them, but for the first one: no in is on, so all stay as they were.
	held := numbers(1, 100)
	held[0] = 0
	sameCycle(t, "as much as may be", longest(), logicOf(held, numbers(0, 100), false), []int64{0}, cycleOut(logicOf(held, numbers(0, 100), true), numbers(0, 100)...))
	sameCycle(t, "as much as may be, let go", longest(), logicOf(held, numbers(0, 100), false), []int64{1}, cycleOut(logicOf(append([]int64{1}, numbers(0, 99)...), numbers(0, 100), false), append([]int64{1}, numbers(0, 99)...)...))
}

// wrongLogics are wrong for a sluice, but for what their names say.
func wrongLogics() map[string]impl.Logic {
	wrong := map[string]impl.Logic{"none": {}, "fallen, and no more": {Fallen: true}, "no Truths": {Counts: numbers(0, 10)}, "no Counts": {Truths: numbers(0, 10)}}
	add := func(what string, change func(s *impl.Logic)) {
		wrong[what] = changedLogic(stillLogic(10), change)
	}
	for place := range int64(10) {
		for what, n := range beside(0, 1) {
			add("the Truth at "+decimal(place)+" is "+what, func(s *impl.Logic) { s.Truths[place] = n })
		}
		for what, n := range beside(0, impl.MaxDelay+1) {
			add("the Count at "+decimal(place)+" is "+what, func(s *impl.Logic) { s.Counts[place] = n })
		}
		if place != 8 {
			add("no delay at "+decimal(place)+", but a Count", func(s *impl.Logic) { s.Counts[place] = 1 })
			add("no delay at "+decimal(place)+", but the most", func(s *impl.Logic) { s.Counts[place] = impl.MaxDelay + 1 })
		}
	}
	for _, count := range []int{0, 1, 9, 11, impl.MaxDiagram, impl.MaxList, impl.MaxList + 1, 30000} {
		add(decimal(int64(count))+" Truths", func(s *impl.Logic) { s.Truths = numbers(0, count) })
		add(decimal(int64(count))+" Counts", func(s *impl.Logic) { s.Counts = numbers(0, count) })
		add(decimal(int64(count))+" of both", func(s *impl.Logic) { *s = stillLogic(count) })
	}
	return wrong
}

// wrongIns are wrong for a sluice.
func wrongIns() map[string][]int64 {
	wrong := map[string][]int64{
		"none": nil, "an empty list": {}, "one": {1}, "three": {0, 0, 0}, "MaxDiagram": numbers(0, impl.MaxDiagram), "MaxList": numbers(0, impl.MaxList),
	}
	for what, n := range beside(0, 1) {
		wrong["the first is "+what] = []int64{n, 0}
		wrong["the last is "+what] = []int64{1, n}
	}
	return wrong
}

func TestLogicCycleWrong(t *testing.T) {
	form, size := cycleFault(impl.ErrForm), cycleFault(impl.ErrSize)
	tooMany := numbers(0, impl.MaxList+1)
	for what, s := range wrongLogics() {
		sameCycle(t, what, sluice(), s, []int64{0, 1}, form)
		s.Fallen = !s.Fallen
		sameCycle(t, what+", fallen or not", sluice(), s, []int64{0, 1}, form)
		sameCycle(t, what+", too many ins", sluice(), s, tooMany, size)
	}
	for what, ins := range wrongIns() {
		sameCycle(t, "ins: "+what, sluice(), stillLogic(10), ins, form)
		sameCycle(t, "fallen, ins: "+what, sluice(), logicOf(numbers(0, 10), numbers(0, 10), true), ins, form)
	}
	sameCycle(t, "too many ins", sluice(), stillLogic(10), tooMany, size)
	sameCycle(t, "too many ins, none of them right", sluice(), stillLogic(10), numbers(7, impl.MaxList+1), size)
	sameCycle(t, "very many ins", impl.Prog{}, impl.Logic{}, numbers(0, 30000), size)
	sameCycle(t, "ins of a program without", impl.Prog{}, impl.Logic{}, []int64{0}, form)
	for what, p := range wrongProgs() {
		ins := insAhead(p, int64(len(p.Blocks)))
		sameCycle(t, what, p, stillLogic(len(p.Blocks)), numbers(0, min(ins, impl.MaxList)), form)
		sameCycle(t, what+", no ins", p, stillLogic(len(p.Blocks)), nil, form)
		sameCycle(t, what+", no Logic", p, impl.Logic{}, nil, form)
		sameCycle(t, what+", too many ins", p, stillLogic(len(p.Blocks)), tooMany, size)
	}
}

// anyLogic is one that is right for the program, whether it can come to be or not.
func anyLogic(random *rand.Rand, p impl.Prog) impl.Logic {
	s := stillLogic(len(p.Blocks))
	s.Fallen = random.Intn(6) == 0
	for place, b := range p.Blocks {
		s.Truths[place] = random.Int63n(2)
		if b.Kind == impl.BlockDelay {
			near := b.B - 1 + random.Int63n(3)
			s.Counts[place] = []int64{0, near, impl.MaxDelay, impl.MaxDelay + 1}[random.Intn(4)]
		}
	}
	return s
}

func anyIns(random *rand.Rand, p impl.Prog) []int64 {
	var ins []int64
	for _, b := range p.Blocks {
		if b.Kind == impl.BlockIn {
			ins = append(ins, random.Int63n(2))
		}
	}
	return ins
}

// insAhead is how many ins stand ahead of a block.
func insAhead(p impl.Prog, place int64) int {
	count := 0
	for _, b := range p.Blocks[:place] {
		if b.Kind == impl.BlockIn {
			count++
		}
	}
	return count
}

// plainTruths goes back from each block to what it looks at.
func plainTruths(p impl.Prog, s impl.Logic, ins []int64) []bool {
	known := map[int64]bool{}
	var is func(place int64) bool
	is = func(place int64) bool {
		if truth, done := known[place]; done {
			return truth
		}
		b, truth := p.Blocks[place], false
		switch b.Kind {
		case impl.BlockIn:
			truth = ins[insAhead(p, place)] == 1
		case impl.BlockAnd:
			truth = is(b.A) && is(b.B)
		case impl.BlockOr:
			truth = is(b.A) || is(b.B)
		case impl.BlockNot:
			truth = !is(b.A)
		case impl.BlockPrev:
			truth = s.Truths[b.A] == 1
		case impl.BlockLatch:
			truth = !is(b.B) && (is(b.A) || s.Truths[place] == 1)
		case impl.BlockDelay:
			truth = is(b.A) && s.Counts[place] >= b.B
		}
		known[place] = truth
		return truth
	}
	var truths []bool
	for place := range p.Blocks {
		truths = append(truths, is(int64(place)))
	}
	return truths
}

func asNumber(truth bool) int64 {
	if truth {
		return 1
	}
	return 0
}

func plainCycle(p impl.Prog, s impl.Logic, ins []int64) impl.CycleOut {
	truths := plainTruths(p, s, ins)
	out := cycleOut(stillLogic(len(p.Blocks)))
	for place, truth := range truths {
		b := p.Blocks[place]
		out.Logic.Truths[place] = asNumber(truth)
		if b.Kind == impl.BlockDelay && truths[b.A] {
			out.Logic.Counts[place] = min(s.Counts[place]+1, 101)
		}
	}
	out.Logic.Fallen = s.Fallen
	for _, n := range p.Nevers {
		out.Logic.Fallen = out.Logic.Fallen || truths[n.A] && truths[n.B]
	}
	for _, place := range p.Outs {
		out.Outs = append(out.Outs, asNumber(truths[place] && !out.Logic.Fallen))
	}
	return out
}

func TestLogicCycleOfAny(t *testing.T) {
	random := rand.New(rand.NewSource(210))
	fallen, held := 0, 0
	for range 8000 {
		p := anyProg(random, []int{3, 10, impl.MaxDiagram}[random.Intn(3)])
		s, ins := anyLogic(random, p), anyIns(random, p)
		want := plainCycle(p, s, ins)
		sameCycle(t, "any", p, s, ins, want)
		if t.Failed() {
			t.Fatalf("of %+v, %+v, %v", p, s, ins)
		}
		if want.Logic.Fallen && !s.Fallen {
			fallen++
		}
		if !want.Logic.Fallen && len(p.Nevers) > 0 {
			held++
		}
	}
	if fallen < 500 || held < 500 {
		t.Errorf("%d fell, %d did not: too few to tell", fallen, held)
	}
}
