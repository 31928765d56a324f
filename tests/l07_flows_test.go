package tests

import (
	"math/big"
	"math/rand"
	"slices"
	"testing"

	"loop.example/g00068/impl"
)

type netCall func(n impl.Net, heads []impl.Frac) impl.NetOut

// sameByHeads also holds what was handed in against what it was, and asks again behind a spoilt answer.
func sameByHeads(t *testing.T, what string, call netCall, n impl.Net, heads []impl.Frac, want impl.NetOut) {
	t.Helper()
	before, ahead := copiedNet(n), slices.Clone(heads)
	got := call(n, heads)
	sameNetOut(t, what, got, want)
	for i := range got.List {
		got.List[i] = frac(-77, 0)
	}
	if !sameNet(n, before) || !slices.Equal(heads, ahead) {
		t.Errorf("%s: the net or the heads were changed", what)
	}
	sameNetOut(t, what+", once more", call(n, heads), want)
}

func sameFlows(t *testing.T, what string, n impl.Net, heads []impl.Frac, want impl.NetOut) {
	t.Helper()
	sameByHeads(t, "NetFlows, "+what, impl.NetFlows, n, heads, want)
}

func sameRest(t *testing.T, what string, n impl.Net, heads []impl.Frac, want impl.NetOut) {
	t.Helper()
	sameByHeads(t, "NetRest, "+what, impl.NetRest, n, heads, want)
}

func sameFault(t *testing.T, what string, n impl.Net, heads []impl.Frac, code int64) {
	t.Helper()
	sameFlows(t, what, n, heads, netFault(code))
	sameRest(t, what, n, heads, netFault(code))
}

func ratOf(f impl.Frac) *big.Rat {
	return big.NewRat(f.Num, f.Den)
}

// plainByHeads tells flows and rests, and where the first Frac of each was none.
func plainByHeads(n impl.Net, heads []impl.Frac) (impl.NetOut, string, impl.NetOut, string) {
	s := &strictly{}
	flows := make([]*big.Rat, len(n.Links))
	for i, l := range n.Links {
		fall := s.sub("a fall", ratOf(heads[l.From]), ratOf(heads[l.To]))
		flows[i] = s.mul("a flow", ofWhole(l.Give), fall)
	}
	if s.over != "" {
		return netFault(impl.ErrOver), s.over, netFault(impl.ErrOver), s.over
	}
	rests := make([]*big.Rat, n.Nodes)
	for node := range rests {
		rests[node] = ofWhole(0)
		for i, l := range n.Links {
			if l.To == int64(node) {
				rests[node] = s.keep("what comes", new(big.Rat).Add(rests[node], flows[i]))
			}
			if l.From == int64(node) {
				rests[node] = s.sub("what goes", rests[node], flows[i])
			}
		}
		rests[node] = s.sub("a want", rests[node], ofWhole(n.Wants[node]))
	}
	if s.over != "" {
		return allOf(flows), "", netFault(impl.ErrOver), s.over
	}
	return allOf(flows), "", allOf(rests), ""
}

func allOf(values []*big.Rat) impl.NetOut {
	var out impl.NetOut
	for _, value := range values {
		out.List = append(out.List, outOf(value).F)
	}
	return out
}

func TestNetFlowsByHand(t *testing.T) {
	one := impl.Net{Nodes: 2, Links: []impl.Link{link(0, 1, 2)}, Fixed: []impl.Fixed{fixed(0, 10)}, Wants: []int64{0, 4}}
	heads := []impl.Frac{frac(10, 1), frac(8, 1)}
	sameFlows(t, "one Link", one, heads, wholes(4))
	sameFlows(t, "one Link told the other way", changedNet(one, func(n *impl.Net) { n.Links[0] = link(1, 0, 2) }), heads, wholes(-4))
	sameFlows(t, "heads that are not the Fixed ones", one, []impl.Frac{frac(1, 2), frac(1, 3)}, netList(frac(1, 3)))
	sameFlows(t, "heads that are alike", one, []impl.Frac{frac(7, 2), frac(7, 2)}, netList(frac(0, 1)))
	sameFlows(t, "no Links", changedNet(one, func(n *impl.Net) { n.Links = nil }), heads, netList())
	sameFlows(t, "none Fixed", changedNet(one, func(n *impl.Net) { n.Fixed = nil }), heads, wholes(4))
	sameFlows(t, "one node", impl.Net{Nodes: 1, Wants: []int64{3}}, heads[:1], netList())
	five := []impl.Frac{frac(1, 1), frac(1, 2), frac(1, 3), frac(1, 4), frac(1, 5)}
	sameFlows(t, "a square", square(), five, netList(frac(3, 2), frac(5, 6), frac(-7, 12), frac(-1, 10), frac(-2, 3), frac(8, 3)))
}

func TestNetRestByHand(t *testing.T) {
	one := impl.Net{Nodes: 2, Links: []impl.Link{link(0, 1, 2)}, Fixed: []impl.Fixed{fixed(0, 10)}, Wants: []int64{0, 4}}
	heads := []impl.Frac{frac(10, 1), frac(8, 1)}
	sameRest(t, "one Link", one, heads, wholes(-4, 0))
	sameRest(t, "one Link told the other way", changedNet(one, func(n *impl.Net) { n.Links[0] = link(1, 0, 2) }), heads, wholes(-4, 0))
	sameRest(t, "a want of a Fixed node", changedNet(one, func(n *impl.Net) { n.Wants[0] = 5 }), heads, wholes(-9, 0))
	sameRest(t, "a want that is not met", changedNet(one, func(n *impl.Net) { n.Wants[1] = 9 }), heads, wholes(-4, -5))
	sameRest(t, "no Links", changedNet(one, func(n *impl.Net) { n.Links = nil }), heads, wholes(0, -4))
	sameRest(t, "one node", impl.Net{Nodes: 1, Wants: []int64{3}}, heads[:1], wholes(-3))
	five := []impl.Frac{frac(1, 1), frac(1, 2), frac(1, 3), frac(1, 4), frac(1, 5)}
	sameRest(t, "a square", square(), five, netList(frac(-65, 6), frac(2, 3), frac(151, 12), frac(-211, 60), frac(-109, 10)))
}

func TestNetFlowsAndRestForm(t *testing.T) {
	five := []impl.Frac{frac(1, 1), frac(1, 2), frac(1, 3), frac(1, 4), frac(1, 5)}
	for what, n := range wrongNets() {
		sameFault(t, what, n, five, impl.ErrForm)
		sameFault(t, what+", no heads", n, nil, impl.ErrForm)
		sameFault(t, what+", a head for each node", n, slices.Repeat(five[:1], int(max(0, min(n.Nodes, 20)))), impl.ErrForm)
	}
	for _, wrong := range wrongFracs() {
		for place := range five {
			heads := slices.Clone(five)
			heads[place] = wrong
			sameFault(t, "a wrong head", square(), heads, impl.ErrForm)
		}
	}
	sameFault(t, "no heads", square(), nil, impl.ErrForm)
	sameFault(t, "a head too few", square(), five[:4], impl.ErrForm)
	sameFault(t, "a head too many", square(), append(slices.Clone(five), frac(0, 1)), impl.ErrForm)
	sameFault(t, "no heads of no net", impl.Net{}, nil, impl.ErrForm)
	unused := impl.Net{Nodes: 3, Wants: []int64{0, 0, 0}}
	sameFault(t, "a wrong head without a Link", unused, []impl.Frac{frac(1, 1), frac(2, 2), frac(1, 1)}, impl.ErrForm)
	great := []impl.Frac{frac(top, 1), frac(-top, 1), frac(1, 1), frac(1, 1), frac(1, 1)}
	sameFault(t, "too great", square(), great, impl.ErrOver)
	great[4] = frac(0, 0)
	sameFault(t, "too great, and a wrong head", square(), great, impl.ErrForm)
	great[4] = frac(1, 1)
	sameFault(t, "too great, and a head too many", square(), append(slices.Clone(great), frac(1, 1)), impl.ErrForm)
	sameFault(t, "too great, and a wrong net", changedNet(square(), func(n *impl.Net) { n.Wants[4] = impl.MaxFlow + 1 }), great, impl.ErrForm)
}

func TestNetFlowsAndRestSize(t *testing.T) {
	for _, head := range []impl.Frac{frac(1, 1), frac(0, 0)} {
		sameFault(t, "MaxList heads", square(), slices.Repeat([]impl.Frac{head}, impl.MaxList), impl.ErrForm)
		sameFault(t, "more than MaxList heads", square(), slices.Repeat([]impl.Frac{head}, impl.MaxList+1), impl.ErrSize)
		for what, n := range wrongNets() {
			sameFault(t, "more than MaxList heads, "+what, n, slices.Repeat([]impl.Frac{head}, impl.MaxList+1), impl.ErrSize)
		}
	}
}

func TestNetFlowsOver(t *testing.T) {
	n := impl.Net{Nodes: 2, Links: []impl.Link{link(0, 1, 1)}, Wants: []int64{0, 0}}
	sameFlows(t, "the most", n, []impl.Frac{frac(top, 1), frac(0, 1)}, wholes(top))
	sameFlows(t, "the least", n, []impl.Frac{frac(0, 1), frac(top, 1)}, wholes(-top))
	sameFault(t, "a fall above", n, []impl.Frac{frac(top, 1), frac(-1, 1)}, impl.ErrOver)
	sameFault(t, "a fall below", n, []impl.Frac{frac(-1, 1), frac(top, 1)}, impl.ErrOver)
	sameFlows(t, "the finest", n, []impl.Frac{frac(1, top), frac(0, 1)}, netList(frac(1, top)))
	sameFault(t, "a fall too fine", n, []impl.Frac{frac(1, top), frac(1, 2)}, impl.ErrOver)
	n.Links[0].Give = 2
	sameFlows(t, "a fall that is just not too great", n, []impl.Frac{frac(top/2, 1), frac(0, 1)}, wholes(top-1))
	sameFault(t, "a flow above", n, []impl.Frac{frac(top/2+1, 1), frac(0, 1)}, impl.ErrOver)
	sameFault(t, "a flow below", n, []impl.Frac{frac(0, 1), frac(top/2+1, 1)}, impl.ErrOver)
	sameFault(t, "a fall too fine that Give would mend", n, []impl.Frac{frac(1, 2147483646), frac(1, 4)}, impl.ErrOver)
	n.Links = append(n.Links, link(1, 0, 3))
	sameFault(t, "the last flow alone", n, []impl.Frac{frac(top/2, 1), frac(0, 1)}, impl.ErrOver)
}

func TestNetRestOver(t *testing.T) {
	n := impl.Net{Nodes: 3, Links: []impl.Link{link(0, 1, 1), link(1, 2, 1)}, Wants: []int64{0, 0, 0}}
	heads := []impl.Frac{frac(top, 1), frac(0, 1), frac(0, 1)}
	sameRest(t, "the most", n, heads, wholes(-top, top, 0))
	n.Wants = []int64{-1, 1, 0}
	sameRest(t, "just within by wants", n, heads, wholes(1-top, top-1, 0))
	n.Wants = []int64{1, 0, 0}
	sameRest(t, "a want too much below", n, heads, netFault(impl.ErrOver))
	n.Wants = []int64{0, -1, 0}
	sameRest(t, "a want too much above", n, heads, netFault(impl.ErrOver))
	sameFlows(t, "flows do not ask for wants", n, heads, wholes(top, 0))
	n.Wants = []int64{0, 0, 0}
	heads = []impl.Frac{frac(top, 1), frac(0, 1), frac(top, 1)}
	sameFlows(t, "flows from both sides", n, heads, wholes(top, -top))
	sameRest(t, "what comes from both sides", n, heads, netFault(impl.ErrOver))
	heads = []impl.Frac{frac(-top, 1), frac(0, 1), frac(-top, 1)}
	sameRest(t, "what goes to both sides", n, heads, netFault(impl.ErrOver))
	heads = []impl.Frac{frac(1, 2147483629), frac(0, 1), frac(1, 2)}
	sameRest(t, "too fine", n, heads, netFault(impl.ErrOver))
}

// What is too great on the way is so in the order of Links alone, whatever the sum comes to.
func TestNetRestInOrder(t *testing.T) {
	n := impl.Net{Nodes: 4, Wants: []int64{0, 0, 0, 0}}
	heads := []impl.Frac{frac(top/2, 1), frac(0, 1), frac(-top/2, 1), frac(top/2, 1)}
	in, more, out := link(0, 1, 2), link(1, 3, 2), link(1, 2, 2)
	want := wholes(1-top, top-1, top-1, 1-top)
	n.Links = []impl.Link{in, out, more}
	sameRest(t, "in, out, in", n, heads, want)
	n.Links = []impl.Link{out, in, more}
	sameRest(t, "out, in, in", n, heads, want)
	n.Links = []impl.Link{in, more, out}
	sameRest(t, "in, in, out", n, heads, netFault(impl.ErrOver))
	n.Wants[1] = impl.MaxFlow
	sameRest(t, "in, in, out, and a want that takes off at last", n, heads, netFault(impl.ErrOver))
	n.Links, n.Wants[1] = []impl.Link{in, out, more}, -1
	sameRest(t, "to the most by a want", n, heads, wholes(1-top, top, top-1, 1-top))
	n.Wants[1] = -2
	sameRest(t, "beyond by a want at last", n, heads, netFault(impl.ErrOver))
	n.Links = []impl.Link{in, more, out}
	heads[1] = frac(1, 1)
	n.Wants[1] = 0
	sameRest(t, "in, in, out, a little less", n, heads, netFault(impl.ErrOver))
}

func anyHeads(random *rand.Rand, count int64) []impl.Frac {
	heads := make([]impl.Frac, count)
	num := []int64{9, 10000, 200000000, top}[random.Intn(4)]
	den := []int64{1, 1, 9, 9, 300, top}[random.Intn(6)]
	for i := range heads {
		heads[i] = impl.FracOf(random.Int63n(2*num+1)-num, 1+random.Int63n(den)).F
	}
	return heads
}

func TestNetFlowsAndRestOfAny(t *testing.T) {
	random := rand.New(rand.NewSource(72))
	seen := map[string]int{}
	for i := range 20000 {
		size := []int64{1, 30, 1000000}[i%3]
		n := anyNet(random, 1+random.Int63n(impl.MaxNodes), random.Intn(impl.MaxLinks+1), size)
		heads := anyHeads(random, n.Nodes)
		flows, _, rests, where := plainByHeads(n, heads)
		seen[where]++
		sameFlows(t, "any", n, heads, flows)
		sameRest(t, "any", n, heads, rests)
		if t.Failed() {
			t.Fatalf("of %+v by %v", n, heads)
		}
	}
	for _, where := range []string{"", "a fall", "a flow", "what comes", "what goes", "a want"} {
		if seen[where] < 10 {
			t.Errorf("too few to tell of %q: %v", where, seen)
		}
	}
}
