package tests

import (
	"math/big"
	"math/rand"
	"slices"
	"testing"

	"loop.example/g00068/impl"
)

func netFault(code int64) impl.NetOut {
	return impl.NetOut{Code: code}
}

func looseAt(node int64) impl.NetOut {
	return impl.NetOut{At: node, Code: impl.ErrNone}
}

func netList(list ...impl.Frac) impl.NetOut {
	return impl.NetOut{List: list}
}

func wholes(numbers ...int64) impl.NetOut {
	var out impl.NetOut
	for _, n := range numbers {
		out.List = append(out.List, frac(n, 1))
	}
	return out
}

func sameNetOut(t *testing.T, what string, got impl.NetOut, want impl.NetOut) {
	t.Helper()
	if got.Code != want.Code || got.At != want.At || !slices.Equal(got.List, want.List) {
		t.Errorf("%s: got %+v, want %+v", what, got, want)
	}
}

// sameSolve also holds the net against what it was, and asks again behind a spoilt answer.
func sameSolve(t *testing.T, what string, n impl.Net, want impl.NetOut) {
	t.Helper()
	before := copiedNet(n)
	got := impl.NetSolve(n)
	sameNetOut(t, "NetSolve, "+what, got, want)
	for i := range got.List {
		got.List[i] = frac(-77, 0)
	}
	if !sameNet(n, before) {
		t.Errorf("NetSolve, %s: the net was changed", what)
	}
	sameNetOut(t, "NetSolve, once more, "+what, impl.NetSolve(n), want)
}

// strictly reckons with exact fractions, and notes at which kind of work the first one was no Frac.
type strictly struct {
	over string
}

func (s *strictly) keep(work string, value *big.Rat) *big.Rat {
	if s.over == "" && outOf(value).Code != impl.OK {
		s.over = work
	}
	return value
}

func (s *strictly) sub(work string, a *big.Rat, b *big.Rat) *big.Rat {
	return s.keep(work, new(big.Rat).Sub(a, b))
}

func (s *strictly) mul(work string, a *big.Rat, b *big.Rat) *big.Rat {
	return s.keep(work, new(big.Rat).Mul(a, b))
}

func (s *strictly) quo(work string, a *big.Rat, b *big.Rat) *big.Rat {
	return s.keep(work, new(big.Rat).Quo(a, b))
}

func ofWhole(n int64) *big.Rat {
	return big.NewRat(n, 1)
}

// headOfNode tells the Head of a Fixed node.
func headOfNode(n impl.Net, node int64) (int64, bool) {
	for _, f := range n.Fixed {
		if f.Node == node {
			return f.Head, true
		}
	}
	return 0, false
}

// plainRows are the rows of chapter 8 by the Links, one behind the other; the right side is the last one.
func plainRows(s *strictly, n impl.Net) ([]int64, [][]*big.Rat) {
	var free []int64
	for node := range n.Nodes {
		if _, is := headOfNode(n, node); !is {
			free = append(free, node)
		}
	}
	rows := make([][]*big.Rat, len(free))
	for r, node := range free {
		rows[r] = make([]*big.Rat, len(free)+1)
		for c := range free {
			rows[r][c] = ofWhole(0)
		}
		rows[r][len(free)] = ofWhole(-n.Wants[node])
	}
	side := func(l impl.Link, node int64, other int64) {
		r := slices.Index(free, node)
		if r < 0 {
			return
		}
		rows[r][r].Add(rows[r][r], ofWhole(l.Give))
		if head, is := headOfNode(n, other); is {
			more := s.keep("Give times Head", ofWhole(l.Give*head))
			rows[r][len(free)] = s.keep("a right side", new(big.Rat).Add(rows[r][len(free)], more))
			return
		}
		c := slices.Index(free, other)
		rows[r][c].Sub(rows[r][c], ofWhole(l.Give))
	}
	for _, l := range n.Links {
		side(l, l.From, l.To)
		side(l, l.To, l.From)
	}
	return free, rows
}

// plainSolve asks for a right net; it also tells where the first Frac was none.
func plainSolve(n impl.Net) (impl.NetOut, string) {
	if loose := plainLoose(n); len(loose) > 0 {
		return looseAt(loose[0]), "loose"
	}
	s := &strictly{}
	free, rows := plainRows(s, n)
	last := len(free)
	for k := range rows {
		for r := k + 1; r < last && s.over == ""; r++ {
			f := s.quo("a row's part", rows[r][k], rows[k][k])
			for c := k; c <= last; c++ {
				rows[r][c] = s.sub("a row's difference", rows[r][c], s.mul("a row's product", f, rows[k][c]))
			}
		}
	}
	if s.over != "" {
		return netFault(impl.ErrOver), s.over
	}
	found := make([]*big.Rat, last)
	for k := last - 1; k >= 0; k-- {
		sum := rows[k][last]
		for c := k + 1; c < last; c++ {
			sum = s.sub("a head's difference", sum, s.mul("a head's product", rows[k][c], found[c]))
		}
		found[k] = s.quo("a head", sum, rows[k][k])
	}
	if s.over != "" {
		return netFault(impl.ErrOver), s.over
	}
	out := impl.NetOut{List: make([]impl.Frac, n.Nodes)}
	for k, node := range free {
		out.List[node] = outOf(found[k]).F
	}
	for _, f := range n.Fixed {
		out.List[f.Node] = frac(f.Head, 1)
	}
	return out, ""
}

func TestNetSolveByHand(t *testing.T) {
	one := impl.Net{Nodes: 2, Links: []impl.Link{link(0, 1, 2)}, Fixed: []impl.Fixed{fixed(0, 10)}, Wants: []int64{0, 4}}
	sameSolve(t, "one Link", one, wholes(10, 8))
	sameSolve(t, "one Link told the other way", changedNet(one, func(n *impl.Net) { n.Links[0] = link(1, 0, 2) }), wholes(10, 8))
	sameSolve(t, "the last one Fixed", changedNet(one, func(n *impl.Net) { n.Fixed[0].Node = 1 }), wholes(10, 10))
	sameSolve(t, "the last one Fixed, and a want", changedNet(one, func(n *impl.Net) { n.Fixed[0].Node, n.Wants[0] = 1, 5 }), netList(frac(15, 2), frac(10, 1)))
	sameSolve(t, "the want of a Fixed node", changedNet(one, func(n *impl.Net) { n.Wants[0] = 999 }), wholes(10, 8))
	sameSolve(t, "water comes in", changedNet(one, func(n *impl.Net) { n.Wants[1] = -4 }), wholes(10, 12))
	sameSolve(t, "two Links side by side", changedNet(one, func(n *impl.Net) { n.Links = append(n.Links, link(1, 0, 6)) }), netList(frac(10, 1), frac(19, 2)))
	line := impl.Net{Nodes: 3, Links: []impl.Link{link(0, 1, 1), link(1, 2, 2)}, Fixed: []impl.Fixed{fixed(0, 0)}, Wants: []int64{0, 1, 1}}
	sameSolve(t, "a line", line, netList(frac(0, 1), frac(-2, 1), frac(-5, 2)))
	between := impl.Net{Nodes: 3, Links: []impl.Link{link(0, 1, 1), link(1, 2, 2)}, Fixed: []impl.Fixed{fixed(0, 9), fixed(2, 3)}, Wants: []int64{7, 0, -7}}
	sameSolve(t, "between two heads", between, wholes(9, 5, 3))
	between.Fixed[1].Head = 4
	sameSolve(t, "between two heads, a part", between, netList(frac(9, 1), frac(17, 3), frac(4, 1)))
	ring := impl.Net{Nodes: 3, Links: []impl.Link{link(0, 1, 1), link(1, 2, 1), link(2, 0, 1)}, Fixed: []impl.Fixed{fixed(1, 0)}, Wants: []int64{3, 0, 0}}
	sameSolve(t, "a ring", ring, wholes(-2, 0, -1))
	doubled := changedNet(ring, func(n *impl.Net) { n.Links = append(n.Links, link(0, 2, 1)) })
	sameSolve(t, "a ring with one Link twice", doubled, netList(frac(-9, 5), frac(0, 1), frac(-6, 5)))
}

func TestNetSolveOfLittle(t *testing.T) {
	sameSolve(t, "one node, Fixed", impl.Net{Nodes: 1, Fixed: []impl.Fixed{fixed(0, -9)}, Wants: []int64{5}}, wholes(-9))
	all := impl.Net{Nodes: 3, Links: []impl.Link{link(2, 0, 9)}, Fixed: []impl.Fixed{fixed(0, 0), fixed(1, -impl.MaxLevel), fixed(2, impl.MaxLevel)}, Wants: []int64{1, 2, 3}}
	sameSolve(t, "all nodes Fixed", all, wholes(0, -impl.MaxLevel, impl.MaxLevel))
	all.Links = nil
	sameSolve(t, "all nodes Fixed, no Links", all, wholes(0, -impl.MaxLevel, impl.MaxLevel))
	apart := impl.Net{Nodes: 4, Links: []impl.Link{link(0, 1, 1), link(3, 2, 2)}, Fixed: []impl.Fixed{fixed(1, 1), fixed(2, 2)}, Wants: []int64{5, 0, 0, 6}}
	sameSolve(t, "two parts, each held", apart, wholes(-4, 1, 2, -1))
}

func TestNetSolveAtItsLimits(t *testing.T) {
	last := int64(impl.MaxNodes - 1)
	line := impl.Net{Nodes: impl.MaxNodes, Fixed: []impl.Fixed{fixed(0, impl.MaxLevel)}, Wants: make([]int64, impl.MaxNodes)}
	want := []int64{impl.MaxLevel}
	for node := range last {
		line.Links = append(line.Links, link(node, node+1, impl.MaxGive))
		line.Wants[node+1] = impl.MaxFlow
		want = append(want, want[node]-1000*(last-node))
	}
	sameSolve(t, "MaxNodes on a line", line, wholes(want...))
	line.Fixed[0].Head = -impl.MaxLevel
	for i := range want {
		want[i] -= 2 * impl.MaxLevel
	}
	sameSolve(t, "MaxNodes on a line far below", line, wholes(want...))
	many := impl.Net{Nodes: 2, Links: slices.Repeat([]impl.Link{link(0, 1, 1)}, impl.MaxLinks), Fixed: []impl.Fixed{fixed(1, 7)}, Wants: []int64{-impl.MaxFlow, 0}}
	sameSolve(t, "MaxLinks", many, wholes(7+impl.MaxFlow/impl.MaxLinks, 7))
}

func TestNetSolveForm(t *testing.T) {
	for what, n := range wrongNets() {
		sameSolve(t, what, n, netFault(impl.ErrForm))
	}
	loose := changedNet(square(), func(n *impl.Net) { n.Links, n.Wants[3] = nil, impl.MaxFlow+1 })
	sameSolve(t, "wrong, and loose", loose, netFault(impl.ErrForm))
	over := heavy(30)
	over.Wants[1] = impl.MaxFlow + 1
	sameSolve(t, "wrong, and too great", over, netFault(impl.ErrForm))
}

func TestNetSolveLoose(t *testing.T) {
	sameSolve(t, "none Fixed", changedNet(square(), func(n *impl.Net) { n.Fixed = nil }), looseAt(0))
	sameSolve(t, "no Links", changedNet(square(), func(n *impl.Net) { n.Links, n.Fixed = nil, []impl.Fixed{fixed(0, 1), fixed(1, 1), fixed(3, 1)} }), looseAt(2))
	sameSolve(t, "the last node", changedNet(square(), func(n *impl.Net) {
		n.Links, n.Fixed = slices.Delete(n.Links, 3, 4), n.Fixed[:1]
	}), looseAt(4))
	sameSolve(t, "one node", impl.Net{Nodes: 1, Wants: []int64{0}}, looseAt(0))
	over := heavy(30)
	over.Nodes, over.Wants = 3, []int64{0, 0, 0}
	sameSolve(t, "loose, and too great", over, looseAt(2))
	over = heavy(30)
	over.Nodes, over.Wants, over.Fixed[0].Node = 3, []int64{0, 0, 0}, 2
	for i := range over.Links {
		over.Links[i].From = 2
	}
	sameSolve(t, "loose ahead of what is too great", over, looseAt(0))
}

// heavy has a right side of 100000000 for each of its Links.
func heavy(links int) impl.Net {
	return impl.Net{
		Nodes: 2,
		Links: slices.Repeat([]impl.Link{link(0, 1, impl.MaxGive)}, links),
		Fixed: []impl.Fixed{fixed(0, impl.MaxLevel)},
		Wants: []int64{0, 0},
	}
}

func TestNetSolveOverByARightSide(t *testing.T) {
	sameSolve(t, "below", heavy(21), wholes(impl.MaxLevel, impl.MaxLevel))
	sameSolve(t, "above", heavy(22), netFault(impl.ErrOver))
	n := heavy(21)
	n.Nodes, n.Fixed = 3, append(n.Fixed, fixed(2, 99966))
	n.Links = append(n.Links, link(1, 2, 475))
	for _, c := range []struct {
		want int64
		out  impl.NetOut
	}{
		{203, netList(frac(impl.MaxLevel, 1), frac(top, 21475), frac(99966, 1))},
		{202, netFault(impl.ErrOver)},
		{204, netList(frac(impl.MaxLevel, 1), frac(2147483646, 21475), frac(99966, 1))},
	} {
		n.Wants = []int64{0, c.want, 0}
		sameSolve(t, "at the edge", n, c.out)
		under := changedNet(n, func(n *impl.Net) {
			n.Wants[1] = -c.want
			for i := range n.Fixed {
				n.Fixed[i].Head = -n.Fixed[i].Head
			}
		})
		turned := impl.NetOut{Code: c.out.Code}
		for _, f := range c.out.List {
			turned.List = append(turned.List, frac(-f.Num, f.Den))
		}
		sameSolve(t, "at the edge below", under, turned)
	}
}

// What is too great on the way is so in the order of Links alone, whatever the sum comes to.
func TestNetSolveRightSidesInOrder(t *testing.T) {
	n := heavy(21)
	n.Nodes, n.Wants, n.Fixed = 3, []int64{0, 0, 0}, append(n.Fixed, fixed(2, -impl.MaxLevel))
	down := link(2, 1, impl.MaxGive)
	n.Links = append(n.Links, down, link(0, 1, impl.MaxGive))
	sameSolve(t, "down ahead of up", n, netList(frac(impl.MaxLevel, 1), frac(2100000, 23), frac(-impl.MaxLevel, 1)))
	sameSolve(t, "a want that takes off at first", changedNet(n, func(n *impl.Net) { n.Wants[1] = 23000 }), netList(frac(impl.MaxLevel, 1), frac(2099977, 23), frac(-impl.MaxLevel, 1)))
	n.Links[21], n.Links[22] = n.Links[22], n.Links[21]
	sameSolve(t, "up ahead of down", n, netFault(impl.ErrOver))
	n.Links = slices.Insert(n.Links[:22], 0, down)
	sameSolve(t, "down at first", n, netList(frac(impl.MaxLevel, 1), frac(2100000, 23), frac(-impl.MaxLevel, 1)))
}

// Node 2 is held through node 0, whose Gives come to 13001, so that the part of row 3 has 13 times 169182012 below.
func TestNetSolveOverByAPart(t *testing.T) {
	n := impl.Net{Nodes: 5, Fixed: []impl.Fixed{fixed(4, 0)}, Wants: make([]int64, 5)}
	n.Links = []impl.Link{link(0, 2, 1), link(1, 2, 13), link(1, 3, 5), link(1, 4, 151)}
	for range 13 {
		n.Links = append(n.Links, link(4, 0, impl.MaxGive), link(2, 4, impl.MaxGive))
	}
	if _, where := plainSolve(n); where != "a row's part" {
		t.Errorf("a row's part: got %q", where)
	}
	sameSolve(t, "a row's part", n, netFault(impl.ErrOver))
}

func TestNetSolveOfAny(t *testing.T) {
	random := rand.New(rand.NewSource(71))
	seen := map[string]int{}
	for i := range 20000 {
		size := []int64{3, 30, 300, 10000, 1000000}[i%5]
		n := anyNet(random, 1+random.Int63n(impl.MaxNodes), random.Intn(impl.MaxLinks+1), size)
		want, where := plainSolve(n)
		seen[where]++
		sameSolve(t, "any", n, want)
		if t.Failed() {
			t.Fatalf("of %+v", n)
		}
	}
	for _, where := range []string{"", "loose", "a row's product", "a row's difference", "a head's product", "a head's difference", "a head"} {
		if seen[where] < 10 {
			t.Errorf("too few to tell of %q: %v", where, seen)
		}
	}
}
