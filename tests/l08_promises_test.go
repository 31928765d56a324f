package tests

import (
	"math/rand"
	"slices"
	"testing"

	"loop.example/g00068/impl"
)

// balance tells what comes to each node less what goes from it and what it wants.
func balance(m impl.Mains, flows []int64) []int64 {
	left := make([]int64, m.Nodes)
	for node, want := range m.Wants {
		left[node] = -want
	}
	for place, p := range m.Pipes {
		left[p.From] -= flows[place]
		left[p.To] += flows[place]
	}
	return left
}

// balanced mains take in all that is wanted at node 0, and lose none of it elsewhere.
func balanced(m impl.Mains, flows []int64) bool {
	all := int64(0)
	for _, want := range m.Wants {
		all += want
	}
	left := balance(m, flows)
	left[0] += all
	return !slices.ContainsFunc(left, func(n int64) bool { return n != 0 })
}

func TestPromise17SolvedMainsBalance(t *testing.T) {
	random := rand.New(rand.NewSource(88))
	solved, left := 0, 0
	for i := range 10000 {
		m, rounds := anyMains(random, sizes()[i%4]), random.Int63n(impl.MaxRounds+1)
		out := impl.MainsSolve(m, rounds)
		if out.Code != impl.OK {
			continue
		}
		solved++
		if out.Rest > 0 {
			left++
		}
		if !balanced(m, out.Flows) || !allMay(m, out.Flows) {
			t.Fatalf("%+v does not balance, or may not be, of %+v by %d rounds", out, m, rounds)
		}
		if out.Rest != plainRest(m, out.Flows) {
			t.Fatalf("%+v: what is left is not told, of %+v by %d rounds", out, m, rounds)
		}
		if start := impl.MainsStart(m); !balanced(m, start.Flows) {
			t.Fatalf("%+v does not balance at the start of %+v", start, m)
		}
	}
	if solved < 3000 || left < 1000 || solved-left < 500 {
		t.Errorf("%d are solved, something is left of %d: too few to tell", solved, left)
	}
}

// A round leaves at each node what there was, whether the flows balance or not.
func TestPromise17RoundsChangeNoBalance(t *testing.T) {
	random := rand.New(rand.NewSource(89))
	changed := 0
	for i := range 10000 {
		m := anyMains(random, sizes()[i%4])
		flows := anyFlows(random, m, sizes()[random.Intn(4)])
		out := impl.MainsRound(m, flows)
		if out.Code != impl.OK || !slices.Equal(balance(m, flows), balance(m, out.Flows)) || !allMay(m, out.Flows) {
			t.Fatalf("%+v balances otherwise, or may not be, of %+v by %v", out, m, flows)
		}
		if !slices.Equal(flows, out.Flows) {
			changed++
		}
	}
	if changed < 1000 {
		t.Errorf("%d are changed: too few to tell", changed)
	}
}

// Mains of no Loops have nothing left over, and those whose Loops are at rest have nought for it.
func TestPromise17WhatIsLeft(t *testing.T) {
	open := changedMains(town(), func(m *impl.Mains) { m.Loops = nil })
	if out := impl.MainsSolve(open, 9); out.Rest != 0 || !balanced(open, out.Flows) {
		t.Errorf("no Loops: got %+v", out)
	}
	for want := int64(0); want <= 1000; want += 2 {
		m := twins(want, plainPipe(0, 1, 3), plainPipe(0, 1, 3))
		out := impl.MainsSolve(m, impl.MaxRounds)
		if out.Rest != 0 || !slices.Equal(out.Flows, []int64{want / 2, want / 2}) {
			t.Errorf("two halves of %d: got %+v", want, out)
		}
		m.Pipes[1].Kind = impl.PipeShut
		if out = impl.MainsSolve(m, impl.MaxRounds); out.Rest != 3*want*want || !balanced(m, out.Flows) {
			t.Errorf("all of %d through one: got %+v", want, out)
		}
	}
}

func TestPromise18RoundsOneByOne(t *testing.T) {
	random := rand.New(rand.NewSource(90))
	settled, cut := 0, 0
	for i := range 6000 {
		m := anyMains(random, sizes()[i%4])
		rounds := random.Int63n([]int64{5, 30, 101}[i%3])
		step := impl.MainsStart(m)
		out := impl.MainsSolve(m, rounds)
		if step.Code != impl.OK {
			sameMainsOut(t, "refused alike", out, step)
			continue
		}
		changes := int64(0)
		for round := range rounds {
			next := impl.MainsRound(m, step.Flows)
			if !slices.Equal(next.Flows, step.Flows) {
				changes = round + 1
			}
			step = next
		}
		if !slices.Equal(step.Flows, out.Flows) || out.Rounds != min(changes+1, rounds) {
			t.Fatalf("%+v one by one, %+v at once, of %+v by %d rounds, of which %d change it", step, out, m, rounds, changes)
		}
		if rounds > 0 && step.Rest != out.Rest {
			t.Fatalf("%d is left one by one, %d at once, of %+v by %d rounds", step.Rest, out.Rest, m, rounds)
		}
		if changes < rounds {
			settled++
		} else if rounds > 0 {
			cut++
		}
	}
	if settled < 1000 || cut < 100 {
		t.Errorf("%d came to rest, %d did not: too few to tell", settled, cut)
	}
}

// What is solved may be gone on with: more rounds are those rounds and the others behind them.
func TestPromise18RoundsGoOn(t *testing.T) {
	random := rand.New(rand.NewSource(91))
	went := 0
	for i := range 3000 {
		m := anyMains(random, sizes()[i%4])
		first, more := random.Int63n(20), random.Int63n(20)
		out := impl.MainsSolve(m, first)
		if out.Code != impl.OK {
			continue
		}
		went++
		flows := out.Flows
		for range more {
			flows = impl.MainsRound(m, flows).Flows
		}
		if all := impl.MainsSolve(m, first+more); !slices.Equal(flows, all.Flows) {
			t.Fatalf("%v behind %d and %d rounds, %+v at once, of %+v", flows, first, more, all, m)
		}
	}
	if went < 1000 {
		t.Errorf("%d went on: too few to tell", went)
	}
}
