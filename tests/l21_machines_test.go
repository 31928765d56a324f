package tests

import (
	"math"
	"math/rand"
	"slices"
	"testing"

	"loop.example/g00068/impl"
)

func sameMachine(t *testing.T, what string, ops []impl.Op, s impl.Logic, ins []int64, want impl.CycleOut) {
	t.Helper()
	what = "CodeCycle, " + what
	mark := impl.Op{Kind: -7, A: -7, B: -7}
	own := roomyOf(ops, mark)
	watchedKept(t, what, s, ins, func(s impl.Logic, ins []int64) impl.CycleOut {
		t.Helper()
		out := impl.CodeCycle(own, s, ins)
		sameCycleOut(t, what, out, want)
		return out
	})
	if !keptOf(own, ops, mark) {
		t.Errorf("%s: the ops were changed", what)
	}
}

// oneKept has a Truth, which is kept by the last op of keeping().
func oneKept(truth int64, count int64) impl.Logic {
	return logicOf([]int64{truth}, []int64{count}, false)
}

// keeping are ops ahead, and then a not of the Truth ahead, which is kept.
func keeping(ops ...impl.Op) []impl.Op {
	return append(slices.Clone(ops), op(impl.OpOld), op(impl.OpNot), keep(0))
}

func TestCodeCycleOps(t *testing.T) {
	sameMachine(t, "nothing", nil, impl.Logic{}, nil, impl.CycleOut{})
	sameMachine(t, "empty lists", []impl.Op{}, logicOf([]int64{}, []int64{}, false), []int64{}, impl.CycleOut{})
	sameMachine(t, "nothing, fallen", nil, logicOf(nil, nil, true), nil, cycleOut(logicOf(nil, nil, true)))
	in, out := op(impl.OpIn), op(impl.OpOut)
	for bits := range int64(4) {
		a, b := bits&1, bits>>1
		ins := []int64{a, b}
		sameMachine(t, "in and out", []impl.Op{in, in, out, out}, impl.Logic{}, ins, cycleOut(impl.Logic{}, b, a))
		sameMachine(t, "in, out, in, out", []impl.Op{in, out, in, out}, impl.Logic{}, ins, cycleOut(impl.Logic{}, a, b))
		sameMachine(t, "and", []impl.Op{in, in, op(impl.OpAnd), out}, impl.Logic{}, ins, cycleOut(impl.Logic{}, a*b))
		sameMachine(t, "or", []impl.Op{in, in, op(impl.OpOr), out}, impl.Logic{}, ins, cycleOut(impl.Logic{}, max(a, b)))
		sameMachine(t, "not of the last", []impl.Op{in, in, op(impl.OpNot), out, out}, impl.Logic{}, ins, cycleOut(impl.Logic{}, 1-b, a))
		sameMachine(t, "old and keep", keeping(op(impl.OpOld), out), oneKept(a, 5), nil, cycleOut(oneKept(1-a, 5), a))
		sameMachine(t, "keep and load", []impl.Op{in, keep(0), load(0), load(0), out, out, in, out}, oneKept(1-a, 0), ins, cycleOut(oneKept(a, 0), a, a, b))
		sameMachine(t, "the last one kept", []impl.Op{in, keep(0), load(0), in, keep(0), load(0), out, out}, oneKept(1-b, 0), ins, cycleOut(oneKept(b, 0), b, a))
		two := logicOf([]int64{a, b}, []int64{3, 4}, false)
		crossed := []impl.Op{opAt(impl.OpOld, 1), keep(0), opAt(impl.OpOld, 0), keep(1), load(0), opAt(impl.OpOld, 0), out, out}
		sameMachine(t, "crossed", crossed, two, nil, cycleOut(logicOf([]int64{b, a}, []int64{3, 4}, false), a, b))
		guards := []impl.Op{in, op(impl.OpGuard), in, op(impl.OpGuard), op(impl.OpOld), op(impl.OpOld), out, keep(0)}
		held := cycleOut(logicOf([]int64{1}, []int64{0}, max(a, b) == 1), 1-max(a, b))
		sameMachine(t, "guards", guards, oneKept(1, 0), ins, held)
		sameMachine(t, "a guard behind an out", []impl.Op{in, out, in, op(impl.OpGuard)}, impl.Logic{}, ins, cycleOut(logicOf(nil, nil, b == 1), a*(1-b)))
		sameMachine(t, "fallen ahead", []impl.Op{in, out, in, op(impl.OpGuard)}, logicOf(nil, nil, true), ins, cycleOut(logicOf(nil, nil, true), 0))
	}
}

func TestCodeCycleCounts(t *testing.T) {
	most := int64(impl.MaxDelay + 1)
	for count := range most + 1 {
		for _, b := range []int64{math.MinInt64, -1, 0, 1, count - 1, count, count + 1, impl.MaxDelay, most, math.MaxInt64} {
			next := min(count+1, most)
			ops := []impl.Op{op(impl.OpIn), countAt(0, b), op(impl.OpOut), op(impl.OpOld), keep(0)}
			sameMachine(t, "true, above "+decimal(b), ops, oneKept(0, count), []int64{1}, cycleOut(oneKept(0, next), asNumber(next > b)))
			sameMachine(t, "false, above "+decimal(b), ops, oneKept(1, count), []int64{0}, cycleOut(oneKept(1, 0), asNumber(0 > b)))
		}
	}
	in, out, old := op(impl.OpIn), op(impl.OpOut), op(impl.OpOld)
	// Both count on from the Logic, and the last one is kept.
	twice := []impl.Op{in, countAt(0, 4), out, in, countAt(0, 4), out, old, keep(0)}
	sameMachine(t, "twice, both true", twice, oneKept(0, 4), []int64{1, 1}, cycleOut(oneKept(0, 5), 1, 1))
	sameMachine(t, "twice, the first true", twice, oneKept(0, 4), []int64{1, 0}, cycleOut(oneKept(0, 0), 1, 0))
	sameMachine(t, "twice, the last true", twice, oneKept(0, 4), []int64{0, 1}, cycleOut(oneKept(0, 5), 0, 1))
	two := logicOf([]int64{1, 0}, []int64{7, 8}, false)
	apart := []impl.Op{old, keep(1), old, keep(0), in, countAt(1, 8), out}
	sameMachine(t, "the other stays", apart, two, []int64{1}, cycleOut(logicOf([]int64{1, 1}, []int64{7, 9}, false), 1))
	sameMachine(t, "the other stays, off", apart, two, []int64{0}, cycleOut(logicOf([]int64{1, 1}, []int64{7, 0}, false), 0))
	sameMachine(t, "ahead of the Truth being kept", []impl.Op{in, countAt(0, 0), keep(0)}, oneKept(0, 0), []int64{1}, cycleOut(oneKept(1, 1)))
}

// TestCodeCycleFreeParts: of an op that asks for no place, or for no B, these may be anything.
func TestCodeCycleFreeParts(t *testing.T) {
	for _, free := range []int64{math.MinInt64, -1, 1, 7, math.MaxInt64} {
		ops := []impl.Op{
			{Kind: impl.OpIn, A: free, B: free}, {Kind: impl.OpIn, A: free, B: free}, {Kind: impl.OpOr, A: free, B: free},
			{Kind: impl.OpIn, A: free, B: free}, {Kind: impl.OpAnd, A: free, B: free}, {Kind: impl.OpNot, A: free, B: free},
			{Kind: impl.OpKeep, B: free}, {Kind: impl.OpLoad, B: free}, {Kind: impl.OpGuard, A: free, B: free},
			{Kind: impl.OpOld, B: free}, {Kind: impl.OpOut, A: free, B: free},
		}
		sameMachine(t, "free parts, "+decimal(free), ops, oneKept(1, 0), []int64{0, 1, 1}, cycleOut(oneKept(0, 0), 1))
		sameMachine(t, "free parts, falling, "+decimal(free), ops, oneKept(1, 0), []int64{0, 1, 0}, cycleOut(logicOf([]int64{1}, []int64{0}, true), 0))
	}
}

func TestCodeCycleLimits(t *testing.T) {
	in, out, not := op(impl.OpIn), op(impl.OpOut), op(impl.OpNot)
	ops := slices.Concat([]impl.Op{in}, slices.Repeat([]impl.Op{not}, impl.MaxBytes-2), []impl.Op{out})
	sameMachine(t, "MaxBytes ops", ops, impl.Logic{}, []int64{1}, cycleOut(impl.Logic{}, 1))
	sameMachine(t, "MaxBytes ops, not one less", ops[:len(ops)-1], impl.Logic{}, []int64{1}, cycleFault(impl.ErrState))
	size, form := cycleFault(impl.ErrSize), cycleFault(impl.ErrForm)
	more := slices.Concat([]impl.Op{in, not, not}, ops[2:])
	sameMachine(t, "one op above MaxBytes", more, impl.Logic{}, []int64{1}, size)
	sameMachine(t, "above MaxBytes, a wrong Logic", more, oneKept(2, 0), []int64{1}, size)
	sameMachine(t, "above MaxBytes, a wrong in", more, impl.Logic{}, []int64{2}, size)
	sameMachine(t, "very many ops of no Kind", make([]impl.Op, 50000), impl.Logic{}, nil, size)
	deep := slices.Concat(slices.Repeat([]impl.Op{op(impl.OpOld)}, impl.MaxBytes/2), slices.Repeat([]impl.Op{keep(0)}, impl.MaxBytes/2))
	sameMachine(t, "a deep stack", deep, oneKept(1, 0), nil, cycleOut(oneKept(1, 0)))
	told := slices.Repeat([]impl.Op{op(impl.OpOld), out}, impl.MaxBytes/2-1)
	sameMachine(t, "many outs", append(told, op(impl.OpOld), keep(0)), oneKept(1, 0), nil, cycleOut(oneKept(1, 0), numbers(1, impl.MaxBytes/2-1)...))
	ins := slices.Repeat([]int64{1, 0, 0, 1}, impl.MaxList/4)
	all := slices.Repeat([]impl.Op{in, out}, impl.MaxList)
	sameMachine(t, "MaxList ins", all, impl.Logic{}, ins, cycleOut(impl.Logic{}, ins...))
	sameMachine(t, "one in above MaxList", append(slices.Clone(all), in, out), impl.Logic{}, append(slices.Clone(ins), 1), size)
	sameMachine(t, "above MaxList, none right", all, impl.Logic{}, numbers(9, impl.MaxList+1), size)
	sameMachine(t, "above MaxList, a wrong Logic", all, oneKept(0, -1), numbers(0, impl.MaxList+1), size)
	var fill []impl.Op
	for place := range int64(impl.MaxDiagram) {
		fill = append(fill, opAt(impl.OpOld, impl.MaxDiagram-1-place), keep(place))
	}
	truths := append(numbers(0, impl.MaxDiagram-1), 1)
	sameMachine(t, "MaxDiagram Truths", fill, logicOf(truths, numbers(101, 100), false), nil, cycleOut(logicOf(append([]int64{1}, numbers(0, 99)...), numbers(101, 100), false)))
	fill = append(fill, op(impl.OpOld), keep(impl.MaxDiagram))
	sameMachine(t, "one Truth above MaxDiagram", fill, stillLogic(impl.MaxDiagram+1), nil, form)
	sameMachine(t, "MaxList Truths", fill, stillLogic(impl.MaxList), nil, form)
	sameMachine(t, "very many Truths", fill, stillLogic(30000), nil, form)
}

// TestCodeCycleForm: what is wrong with the Logic or the ins is told ahead of what is wrong with the ops.
func TestCodeCycleForm(t *testing.T) {
	form := cycleFault(impl.ErrForm)
	wrong := map[string]impl.Logic{"no Counts": {Truths: []int64{0, 1}}, "no Truths": {Counts: []int64{0, 1}}}
	add := func(what string, change func(s *impl.Logic)) {
		wrong[what] = changedLogic(stillLogic(2), change)
	}
	add("a Count less", func(s *impl.Logic) { s.Counts = s.Counts[:1] })
	add("a Count more", func(s *impl.Logic) { s.Counts = numbers(0, 3) })
	add("very many Counts", func(s *impl.Logic) { s.Counts = numbers(0, 30000) })
	for place := range int64(2) {
		for what, n := range beside(0, 1) {
			add("the Truth at "+decimal(place)+" is "+what, func(s *impl.Logic) { s.Truths[place] = n })
		}
		for what, n := range beside(0, impl.MaxDelay+1) {
			add("the Count at "+decimal(place)+" is "+what, func(s *impl.Logic) { s.Counts[place] = n })
		}
	}
	both := []impl.Op{op(impl.OpOld), keep(0), op(impl.OpOld), keep(1)}
	for what, s := range wrong {
		sameMachine(t, what, both, s, nil, form)
		sameMachine(t, what+", no ops", nil, s, nil, form)
		sameMachine(t, what+", a wrong op", []impl.Op{op(0)}, s, nil, form)
		s.Fallen = true
		sameMachine(t, what+", fallen", both, s, nil, form)
	}
	for what, n := range beside(0, 1) {
		in := op(impl.OpIn)
		sameMachine(t, "the first in is "+what, []impl.Op{in, in, op(impl.OpOr), op(impl.OpOut)}, impl.Logic{}, []int64{n, 0}, form)
		sameMachine(t, "the last in is "+what, []impl.Op{in, in, op(impl.OpOr), op(impl.OpOut)}, impl.Logic{}, []int64{1, n}, form)
		sameMachine(t, "an in that is not taken is "+what, nil, impl.Logic{}, []int64{n}, form)
		sameMachine(t, "no Kind, and an in is "+what, []impl.Op{op(0)}, impl.Logic{}, []int64{n}, form)
	}
	// A Count of any place may be above nought, since nobody tells what is a delay.
	sameMachine(t, "Counts", both, logicOf([]int64{1, 0}, []int64{101, 1}, false), nil, cycleOut(logicOf([]int64{1, 1}, []int64{101, 1}, false)))
}

func TestCodeCycleState(t *testing.T) {
	state := cycleFault(impl.ErrState)
	in, out, old, and := op(impl.OpIn), op(impl.OpOut), op(impl.OpOld), op(impl.OpAnd)
	for what, kind := range beside(impl.OpIn, impl.OpGuard) {
		sameMachine(t, "a Kind "+what, keeping(op(kind)), oneKept(0, 0), nil, state)
		sameMachine(t, "the last Kind "+what, append(keeping(), op(kind)), oneKept(0, 0), nil, state)
	}
	for what, place := range beside(0, 0) {
		for _, kind := range []int64{impl.OpOld, impl.OpLoad, impl.OpKeep} {
			pieces := map[int64][]impl.Op{impl.OpOld: {opAt(kind, place), out}, impl.OpLoad: {load(place), out}, impl.OpKeep: {old, keep(place)}}
			sameMachine(t, "Kind "+decimal(kind)+" at "+what, append(keeping(), pieces[kind]...), oneKept(0, 0), nil, state)
		}
		sameMachine(t, "a count at "+what, append(keeping(), old, countAt(place, 0), out), oneKept(1, 0), nil, state)
	}
	sameMachine(t, "a place of no Truths", []impl.Op{old, out}, impl.Logic{}, nil, state)
	for _, kind := range []int64{impl.OpAnd, impl.OpOr, impl.OpNot, impl.OpKeep, impl.OpCount, impl.OpOut, impl.OpGuard} {
		sameMachine(t, "an empty stack, Kind "+decimal(kind), append(keeping(), op(kind)), oneKept(0, 0), nil, state)
		sameMachine(t, "an empty stack ahead, Kind "+decimal(kind), keeping(op(kind)), oneKept(0, 0), nil, state)
		sameMachine(t, "a stack emptied, Kind "+decimal(kind), keeping(old, out, op(kind)), oneKept(0, 0), nil, state)
	}
	for _, kind := range []int64{impl.OpAnd, impl.OpOr} {
		sameMachine(t, "only one on the stack, Kind "+decimal(kind), keeping(old, op(kind), out), oneKept(0, 0), nil, state)
	}
	sameMachine(t, "no in", []impl.Op{in, out}, impl.Logic{}, nil, state)
	sameMachine(t, "an in too few", []impl.Op{in, in, and, out}, impl.Logic{}, []int64{1}, state)
	sameMachine(t, "an in is left", []impl.Op{in, out}, impl.Logic{}, []int64{1, 0}, state)
	sameMachine(t, "an in is left, no ops", nil, impl.Logic{}, []int64{0}, state)
	sameMachine(t, "the stack is not empty", keeping(old), oneKept(0, 0), nil, state)
	sameMachine(t, "the stack is not empty, of false", []impl.Op{in}, impl.Logic{}, []int64{0}, state)
	sameMachine(t, "not kept yet", keeping(op(impl.OpOld), out, load(0), out), oneKept(0, 0), nil, state)
	sameMachine(t, "another one not kept yet", append(keeping(), load(1), out, old, keep(1)), stillLogic(2), nil, state)
	sameMachine(t, "nothing kept", nil, oneKept(0, 0), nil, state)
	sameMachine(t, "the first one not kept", []impl.Op{old, keep(1)}, stillLogic(2), nil, state)
	sameMachine(t, "the last one not kept", keeping(), stillLogic(2), nil, state)
	sameMachine(t, "counted, not kept", []impl.Op{old, countAt(0, 0), out}, oneKept(1, 0), nil, state)
	sameMachine(t, "fallen, and then no Kind", keeping(in, op(impl.OpGuard), op(0)), oneKept(1, 0), []int64{1}, state)
	sameMachine(t, "fallen ahead, and no in", []impl.Op{in, out}, logicOf(nil, nil, true), nil, state)
	sameMachine(t, "cut off", impl.ProgCode(sluice())[:20], stillLogic(10), []int64{0, 1}, state)
}

// takes is how many an op of each Kind takes off the stack.
func takes(kind int64) int {
	return []int{0, 0, 2, 2, 1, 0, 1, 0, 1, 1, 1}[kind]
}

// plainOp is one op by what the chapter says; it holds only where the machine can go on.
type plainOp struct {
	s      impl.Logic
	ins    []int64
	stack  []bool
	kept   map[int64]bool
	counts map[int64]int64
	outs   []bool
	fallen bool
}

func (m *plainOp) goesOn(o impl.Op) bool {
	if o.Kind < 1 || o.Kind > 10 || len(m.stack) < takes(o.Kind) {
		return false
	}
	if slices.Contains([]int64{impl.OpOld, impl.OpKeep, impl.OpLoad, impl.OpCount}, o.Kind) && (o.A < 0 || o.A >= int64(len(m.s.Truths))) {
		return false
	}
	_, kept := m.kept[o.A]
	return (o.Kind != impl.OpIn || len(m.ins) > 0) && (o.Kind != impl.OpLoad || kept)
}

func (m *plainOp) do(o impl.Op) {
	rest := len(m.stack) - takes(o.Kind)
	taken := slices.Clone(m.stack[rest:])
	m.stack = slices.Clone(m.stack[:rest])
	switch o.Kind {
	case impl.OpIn:
		m.stack = append(m.stack, m.ins[0] == 1)
		m.ins = m.ins[1:]
	case impl.OpAnd:
		m.stack = append(m.stack, taken[0] && taken[1])
	case impl.OpOr:
		m.stack = append(m.stack, taken[0] || taken[1])
	case impl.OpNot:
		m.stack = append(m.stack, !taken[0])
	case impl.OpOld:
		m.stack = append(m.stack, m.s.Truths[o.A] == 1)
	case impl.OpLoad:
		m.stack = append(m.stack, m.kept[o.A])
	case impl.OpKeep:
		m.kept[o.A] = taken[0]
	case impl.OpCount:
		m.counts[o.A] = 0
		if taken[0] {
			m.counts[o.A] = min(m.s.Counts[o.A]+1, 101)
		}
		m.stack = append(m.stack, m.counts[o.A] > o.B)
	case impl.OpGuard:
		m.fallen = m.fallen || taken[0]
	case impl.OpOut:
		m.outs = append(m.outs, taken[0])
	}
}

// plainMachine is told a right Logic and right ins.
func plainMachine(ops []impl.Op, s impl.Logic, ins []int64) impl.CycleOut {
	m := &plainOp{s: s, ins: ins, kept: map[int64]bool{}, counts: map[int64]int64{}, fallen: s.Fallen}
	for _, o := range ops {
		if !m.goesOn(o) {
			return cycleFault(impl.ErrState)
		}
		m.do(o)
	}
	if len(m.stack) > 0 || len(m.ins) > 0 || len(m.kept) < len(s.Truths) {
		return cycleFault(impl.ErrState)
	}
	out := cycleOut(changedLogic(s, func(s *impl.Logic) { s.Fallen = m.fallen }))
	for place, truth := range m.kept {
		out.Logic.Truths[place] = asNumber(truth)
	}
	for place, count := range m.counts {
		out.Logic.Counts[place] = count
	}
	for _, truth := range m.outs {
		out.Outs = append(out.Outs, asNumber(truth && !m.fallen))
	}
	return out
}

// TestCodeCycleAllLittle: all codes of up to four ops, over one Truth and over none.
func TestCodeCycleAllLittle(t *testing.T) {
	kinds := []impl.Op{op(0), op(11), load(1), opAt(impl.OpOld, -1)}
	for kind := int64(impl.OpIn); kind <= impl.OpGuard; kind++ {
		kinds = append(kinds, op(kind))
	}
	seen := map[int64]int{}
	codes := [][]impl.Op{nil}
	for range 5 {
		var longer [][]impl.Op
		for _, code := range codes {
			for _, s := range []impl.Logic{{}, {Fallen: true}, oneKept(0, 1), oneKept(1, 0)} {
				for _, ins := range [][]int64{nil, {1}, {0, 1}} {
					want := plainMachine(code, s, ins)
					got := impl.CodeCycle(code, s, ins)
					sameCycleOut(t, "little", got, want)
					seen[got.Code]++
				}
			}
			if t.Failed() {
				t.Fatalf("of %v", code)
			}
			for _, o := range kinds {
				longer = append(longer, append(slices.Clone(code), o))
			}
		}
		codes = longer
	}
	if seen[impl.OK] < 100 || len(seen) != 2 {
		t.Errorf("%v: too few to tell", seen)
	}
}

// turnCode changes, takes out, doubles or puts in an op.
func turnCode(random *rand.Rand, ops []impl.Op) []impl.Op {
	ops = slices.Clone(ops)
	at := random.Intn(len(ops) + 1)
	fresh := impl.Op{Kind: 1 + random.Int63n(10), A: random.Int63n(4), B: random.Int63n(3)}
	if at == len(ops) {
		return append(ops, fresh)
	}
	switch random.Intn(6) {
	case 0:
		return slices.Delete(ops, at, at+1)
	case 1:
		return slices.Insert(ops, at, fresh)
	case 2:
		return slices.Insert(ops, at, ops[random.Intn(len(ops))])
	case 3:
		other := random.Intn(len(ops))
		ops[at], ops[other] = ops[other], ops[at]
	case 4:
		part := []*int64{&ops[at].Kind, &ops[at].A, &ops[at].B}[random.Intn(3)]
		*part += random.Int63n(5) - 2
	case 5:
		ops[at] = []impl.Op{op(impl.OpAnd), op(impl.OpOr), op(impl.OpNot), op(impl.OpGuard), op(impl.OpOut)}[random.Intn(5)]
	}
	return ops
}

func TestCodeCycleOfAny(t *testing.T) {
	random := rand.New(rand.NewSource(212))
	seen := map[int64]int{}
	for range 30000 {
		p := anyProg(random, []int{2, 5, 20}[random.Intn(3)])
		s, ins, ops := anyLogic(random, p), anyIns(random, p), plainCode(p)
		for range random.Intn(3) {
			ops = turnCode(random, ops)
		}
		want := plainMachine(ops, s, ins)
		seen[want.Code]++
		sameMachine(t, "any", ops, s, ins, want)
		if t.Failed() {
			t.Fatalf("of %v, %+v, %v", ops, s, ins)
		}
	}
	if seen[impl.OK] < 5000 || seen[impl.ErrState] < 5000 {
		t.Errorf("%v: too few to tell", seen)
	}
}
