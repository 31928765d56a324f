package tests

import (
	"math"
	"math/rand"
	"slices"
	"testing"

	"loop.example/g00068/impl"
)

// sameYield also holds what was handed in against what it was.
func sameYield(t *testing.T, what string, s impl.Store, ins []int64, want int64) {
	t.Helper()
	before, insBefore := copied(s), slices.Clone(ins)
	if got := impl.StoreYield(s, ins); got != want {
		t.Errorf("StoreYield, %s: got %d, want %d", what, got, want)
	}
	if !sameStore(s, before) || !slices.Equal(ins, insBefore) {
		t.Errorf("StoreYield, %s: what was handed in was changed", what)
	}
}

// lasts tells by water alone whether so much can be given in each step.
func lasts(s impl.Store, ins []int64, want int64) bool {
	water := s.Volume
	for _, in := range ins {
		water += in - want
		if water < 0 {
			return false
		}
		water = min(water, s.Curve[len(s.Curve)-1].Volume)
	}
	return true
}

// plainYield tries one want behind the other.
func plainYield(s impl.Store, ins []int64) int64 {
	want := int64(0)
	for want < impl.MaxFlow && lasts(s, ins, want+1) {
		want++
	}
	return want
}

func TestStoreYieldByHand(t *testing.T) {
	for _, c := range []struct {
		what         string
		full, volume int64
		ins          []int64
		want         int64
	}{
		{"one step", 100, 50, []int64{10}, 60},
		{"one step, nothing there", 100, 0, []int64{0}, 0},
		{"one step, all that comes in", 100, 0, []int64{7}, 7},
		{"one step, more than full", 100, 100, []int64{70}, 170},
		{"two steps", 100, 50, []int64{10, 10}, 35},
		{"two steps, rounded down", 100, 50, []int64{10, 11}, 35},
		{"two steps, one more", 100, 50, []int64{10, 12}, 36},
		{"bound by the first step", 100, 5, []int64{10, 1000}, 15},
		{"bound by the last step", 100, 50, []int64{1000, 0, 0}, 50},
		{"bound by a dry middle", 100, 100, []int64{0, 0, 0, 500, 0}, 33},
		{"what spills can't be given", 10, 10, []int64{90, 0}, 10},
		{"given ahead of what spills", 10, 10, []int64{90, 90}, 95},
		{"a dry day on an empty store", 100, 0, []int64{0, 50}, 0},
		{"the most", impl.MaxWater, impl.MaxWater, []int64{0, 0, 0}, impl.MaxFlow},
		{"just the most", impl.MaxWater, 3 * impl.MaxFlow, []int64{0, 0, 0}, impl.MaxFlow},
		{"one below the most", impl.MaxWater, 3*impl.MaxFlow - 1, []int64{0, 0, 0}, impl.MaxFlow - 1},
		{"the most comes in", 1, 0, []int64{impl.MaxFlow, impl.MaxFlow}, impl.MaxFlow},
		{"the most comes in, and one is there", 1, 1, []int64{impl.MaxFlow}, impl.MaxFlow},
	} {
		sameYield(t, c.what, pond(c.full, c.volume), c.ins, c.want)
	}
}

func TestStoreYieldMindsNoRules(t *testing.T) {
	for _, rules := range [][]impl.Rule{{{From: 0, Give: 0}}, {{From: 0, Give: 1000}}, {{From: 0, Give: 0}, {From: 50, Give: 500}, {From: 100, Give: 999}}} {
		s := pond(100, 50)
		s.Rules = rules
		sameYield(t, "whatever the rules say", s, []int64{10, 10}, 35)
		sameYield(t, "whatever the rules say, and it spills", s, []int64{500, 0}, 100)
	}
}

func TestStoreYieldOfNoSteps(t *testing.T) {
	for _, volume := range []int64{0, 500, 1000} {
		sameYield(t, "no steps", holding(volume), nil, impl.MaxFlow)
		sameYield(t, "an empty list", holding(volume), []int64{}, impl.MaxFlow)
	}
}

func TestStoreYieldForm(t *testing.T) {
	for what, s := range wrongStores() {
		sameYield(t, what, s, []int64{1, 2}, -1)
		sameYield(t, what+", no steps", s, nil, -1)
		sameYield(t, what+", and a wrong in", s, []int64{-1}, -1)
	}
	for place := range 3 {
		for _, n := range []int64{-1, impl.MaxFlow + 1, impl.MaxWater, math.MinInt64, math.MaxInt64} {
			ins := []int64{1, 2, 3}
			ins[place] = n
			sameYield(t, "a wrong in", lake(), ins, -1)
		}
	}
	sameYield(t, "a wrong in behind a dry step", pond(9, 0), []int64{0, 0, -1}, -1)
}

func TestStoreYieldSize(t *testing.T) {
	ins := slices.Repeat([]int64{3}, impl.MaxList+1)
	sameYield(t, "MaxList steps", pond(impl.MaxList, impl.MaxList), ins[:impl.MaxList], 4)
	sameYield(t, "one step more", pond(impl.MaxList, impl.MaxList), ins, 0)
	sameYield(t, "too many wrong ins", lake(), slices.Repeat([]int64{-1}, impl.MaxList+1), 0)
	sameYield(t, "MaxList wrong ins", lake(), slices.Repeat([]int64{-1}, impl.MaxList), -1)
	sameYield(t, "too many ins of no store", impl.Store{}, ins, 0)
	for what, s := range wrongStores() {
		sameYield(t, "too many ins, "+what, s, ins, 0)
	}
}

func TestStoreYieldOfAnyStore(t *testing.T) {
	random := rand.New(rand.NewSource(44))
	for range 600 {
		full := 1 + random.Int63n(300)
		s := pond(full, random.Int63n(full+1))
		s.Rules = anyRules(random)
		ins := make([]int64, 1+random.Intn(12))
		for i := range ins {
			ins[i] = anyNumber(random, 400)
		}
		sameYield(t, "any store", s, ins, plainYield(s, ins))
	}
}
