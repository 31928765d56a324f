package tests

import (
	"math"
	"math/rand"
	"slices"
	"testing"

	"loop.example/g00068/impl"
)

func link(from int64, to int64, give int64) impl.Link {
	return impl.Link{From: from, To: to, Give: give}
}

func fixed(node int64, head int64) impl.Fixed {
	return impl.Fixed{Node: node, Head: head}
}

func copiedNet(n impl.Net) impl.Net {
	n.Links, n.Fixed, n.Wants = slices.Clone(n.Links), slices.Clone(n.Fixed), slices.Clone(n.Wants)
	return n
}

func sameNet(a impl.Net, b impl.Net) bool {
	return a.Nodes == b.Nodes && slices.Equal(a.Links, b.Links) && slices.Equal(a.Fixed, b.Fixed) && slices.Equal(a.Wants, b.Wants)
}

// changedNet is a copy of a net but for what is changed of it.
func changedNet(n impl.Net, change func(n *impl.Net)) impl.Net {
	n = copiedNet(n)
	change(&n)
	return n
}

// square has four nodes about one that is in none of its corners; node 1 and node 4 are Fixed.
func square() impl.Net {
	return impl.Net{
		Nodes: 5,
		Links: []impl.Link{link(0, 1, 3), link(1, 2, 5), link(3, 2, 7), link(4, 3, 2), link(2, 0, 1), link(0, 2, 4)},
		Fixed: []impl.Fixed{fixed(1, 50), fixed(4, -20)},
		Wants: []int64{6, 0, -9, 4, 11},
	}
}

// wrongNets are right but for what their names say.
func wrongNets() map[string]impl.Net {
	wrong := map[string]impl.Net{"none": {}}
	add := func(what string, change func(n *impl.Net)) {
		wrong[what] = changedNet(square(), change)
	}
	for what, node := range map[string]int64{"below": -1, "beyond": 5, "the least": math.MinInt64, "the most": math.MaxInt64} {
		add("From is "+what, func(n *impl.Net) { n.Links[2].From = node })
		add("To is "+what, func(n *impl.Net) { n.Links[5].To = node })
		add("both ends are "+what, func(n *impl.Net) { n.Links[0] = link(node, node, 1) })
		add("the Node of the first Fixed is "+what, func(n *impl.Net) { n.Fixed[0].Node = node })
		add("the Node of the last Fixed is "+what, func(n *impl.Net) { n.Fixed[1].Node = node })
	}
	for what, give := range map[string]int64{"nought": 0, "below": -1, "beyond": impl.MaxGive + 1, "the least": math.MinInt64, "the most": math.MaxInt64} {
		add("the first Give is "+what, func(n *impl.Net) { n.Links[0].Give = give })
		add("the last Give is "+what, func(n *impl.Net) { n.Links[5].Give = give })
	}
	for what, head := range map[string]int64{"below": -impl.MaxLevel - 1, "above": impl.MaxLevel + 1, "the least": math.MinInt64, "the most": math.MaxInt64} {
		add("the first Head is "+what, func(n *impl.Net) { n.Fixed[0].Head = head })
		add("the last Head is "+what, func(n *impl.Net) { n.Fixed[1].Head = head })
	}
	for what, want := range map[string]int64{"below": -impl.MaxFlow - 1, "above": impl.MaxFlow + 1, "the least": math.MinInt64, "the most": math.MaxInt64} {
		add("the first want is "+what, func(n *impl.Net) { n.Wants[0] = want })
		add("the last want is "+what, func(n *impl.Net) { n.Wants[4] = want })
		add("the want of a Fixed node is "+what, func(n *impl.Net) { n.Wants[1] = want })
	}
	add("a Link to its own node", func(n *impl.Net) { n.Links[3].To = n.Links[3].From })
	add("one Link too many", func(n *impl.Net) { n.Links = slices.Repeat([]impl.Link{link(0, 1, 1)}, impl.MaxLinks+1) })
	add("very many Links", func(n *impl.Net) { n.Links = slices.Repeat([]impl.Link{link(0, 1, 1)}, impl.MaxList+1) })
	add("Fixed twice", func(n *impl.Net) { n.Fixed[1].Node = 1 })
	add("Fixed falling", func(n *impl.Net) { n.Fixed[0], n.Fixed[1] = n.Fixed[1], n.Fixed[0] })
	add("more Fixed than nodes", func(n *impl.Net) { n.Fixed = slices.Repeat([]impl.Fixed{fixed(1, 0)}, 6) })
	add("a want too few", func(n *impl.Net) { n.Wants = n.Wants[:4] })
	add("a want too many", func(n *impl.Net) { n.Wants = append(n.Wants, 0) })
	add("no wants", func(n *impl.Net) { n.Wants = nil })
	add("no nodes", func(n *impl.Net) { *n = impl.Net{Links: n.Links[:0], Fixed: n.Fixed[:0]} })
	add("no nodes, but wants", func(n *impl.Net) { n.Nodes = 0 })
	add("a node too few", func(n *impl.Net) { n.Nodes = 4 })
	add("a node too many", func(n *impl.Net) { n.Nodes = 6 })
	add("nodes below nought", func(n *impl.Net) { n.Nodes = -1 })
	add("the least nodes", func(n *impl.Net) { n.Nodes = math.MinInt64 })
	add("the most nodes", func(n *impl.Net) { n.Nodes = math.MaxInt64 })
	add("one node above MaxNodes", func(n *impl.Net) { n.Nodes, n.Wants = impl.MaxNodes+1, make([]int64, impl.MaxNodes+1) })
	return wrong
}

// rightNets are at the limits, or of little.
func rightNets() map[string]impl.Net {
	right := map[string]impl.Net{
		"a square":    square(),
		"one node":    {Nodes: 1, Wants: []int64{0}},
		"one, Fixed":  {Nodes: 1, Fixed: []impl.Fixed{fixed(0, 9)}, Wants: []int64{5}},
		"empty lists": {Nodes: 1, Links: []impl.Link{}, Fixed: []impl.Fixed{}, Wants: []int64{0}},
	}
	add := func(what string, change func(n *impl.Net)) {
		right[what] = changedNet(square(), change)
	}
	add("MaxLinks", func(n *impl.Net) { n.Links = slices.Repeat([]impl.Link{link(4, 0, 1)}, impl.MaxLinks) })
	add("no Links", func(n *impl.Net) { n.Links = nil })
	add("none Fixed", func(n *impl.Net) { n.Fixed = nil })
	add("the Gives at their limits", func(n *impl.Net) { n.Links[0].Give, n.Links[5].Give = 1, impl.MaxGive })
	add("the Heads at their limits", func(n *impl.Net) { n.Fixed[0].Head, n.Fixed[1].Head = impl.MaxLevel, -impl.MaxLevel })
	add("the wants at their limits", func(n *impl.Net) { n.Wants[0], n.Wants[1], n.Wants[4] = -impl.MaxFlow, impl.MaxFlow, impl.MaxFlow })
	add("the first node Fixed", func(n *impl.Net) { n.Fixed[0].Node = 0 })
	add("all nodes Fixed", func(n *impl.Net) {
		n.Fixed = []impl.Fixed{fixed(0, 1), fixed(1, 2), fixed(2, 3), fixed(3, 2), fixed(4, 1)}
	})
	add("MaxNodes", func(n *impl.Net) {
		n.Nodes, n.Wants = impl.MaxNodes, make([]int64, impl.MaxNodes)
		n.Links[1], n.Fixed[1] = link(impl.MaxNodes-1, 0, 1), fixed(impl.MaxNodes-1, 0)
	})
	return right
}

func TestNetRight(t *testing.T) {
	for what, n := range rightNets() {
		before := copiedNet(n)
		if !impl.NetRight(n) {
			t.Errorf("NetRight, %s: is false", what)
		}
		if !sameNet(n, before) {
			t.Errorf("NetRight, %s: the net was changed", what)
		}
	}
	for what, n := range wrongNets() {
		before := copiedNet(n)
		if impl.NetRight(n) {
			t.Errorf("NetRight, %s: is true", what)
		}
		if !sameNet(n, before) {
			t.Errorf("NetRight, %s: the net was changed", what)
		}
	}
}

func sameLoose(t *testing.T, what string, n impl.Net, want []int64) {
	t.Helper()
	before := copiedNet(n)
	got := impl.NetLoose(n)
	if !slices.Equal(got, want) {
		t.Errorf("NetLoose, %s: got %v, want %v", what, got, want)
	}
	for i := range got {
		got[i] = -7
	}
	if !sameNet(n, before) {
		t.Errorf("NetLoose, %s: the net was changed", what)
	}
}

// plainLoose goes each node's ways by itself, one Link deeper at a time.
func plainLoose(n impl.Net) []int64 {
	var loose []int64
	for node := range n.Nodes {
		if !leadsToFixed(n, node, make([]bool, n.Nodes)) {
			loose = append(loose, node)
		}
	}
	return loose
}

func leadsToFixed(n impl.Net, node int64, been []bool) bool {
	if slices.ContainsFunc(n.Fixed, func(f impl.Fixed) bool { return f.Node == node }) {
		return true
	}
	been[node] = true
	for _, l := range n.Links {
		if l.From == node && !been[l.To] && leadsToFixed(n, l.To, been) {
			return true
		}
		if l.To == node && !been[l.From] && leadsToFixed(n, l.From, been) {
			return true
		}
	}
	return false
}

// lineOf has its Links one behind the other, but told from the last to the first or in another order.
func lineOf(nodes int64, order []int) impl.Net {
	n := impl.Net{Nodes: nodes, Wants: make([]int64, nodes)}
	for _, i := range order {
		n.Links = append(n.Links, link(int64(i), int64(i)+1, 1))
	}
	return n
}

func TestNetLooseByHand(t *testing.T) {
	sameLoose(t, "a square", square(), nil)
	sameLoose(t, "none Fixed", changedNet(square(), func(n *impl.Net) { n.Fixed = nil }), []int64{0, 1, 2, 3, 4})
	sameLoose(t, "no Links", changedNet(square(), func(n *impl.Net) { n.Links = nil }), []int64{0, 2, 3})
	sameLoose(t, "one node", impl.Net{Nodes: 1, Wants: []int64{0}}, []int64{0})
	sameLoose(t, "one, Fixed", impl.Net{Nodes: 1, Fixed: []impl.Fixed{fixed(0, 0)}, Wants: []int64{0}}, nil)
	two := impl.Net{Nodes: 6, Links: []impl.Link{link(1, 0, 1), link(5, 3, 1)}, Fixed: []impl.Fixed{fixed(3, 0)}, Wants: make([]int64, 6)}
	sameLoose(t, "two parts", two, []int64{0, 1, 2, 4})
	two.Fixed = []impl.Fixed{fixed(1, 0), fixed(5, 0)}
	sameLoose(t, "two parts, each held", two, []int64{2, 4})
	for what, n := range wrongNets() {
		sameLoose(t, what, n, nil)
	}
}

func TestNetLooseAlongALine(t *testing.T) {
	last := int(impl.MaxNodes) - 1
	var up, down []int
	for i := range last {
		up, down = append(up, i), append(down, last-1-i)
	}
	for _, order := range [][]int{up, down, {5, 0, 10, 3, 7, 1, 9, 2, 8, 4, 6}} {
		n := lineOf(impl.MaxNodes, order)
		for node := range int64(impl.MaxNodes) {
			n.Fixed = []impl.Fixed{fixed(node, 0)}
			sameLoose(t, "a line", n, nil)
			turned := copiedNet(n)
			for i, l := range turned.Links {
				turned.Links[i].From, turned.Links[i].To = l.To, l.From
			}
			sameLoose(t, "a line the other way", turned, nil)
			for gone := range n.Links {
				cut := changedNet(n, func(n *impl.Net) { n.Links = slices.Delete(n.Links, gone, gone+1) })
				sameLoose(t, "a line that is cut", cut, plainLoose(cut))
			}
		}
	}
}

// anyNet has heads and wants up to its size, so that small ones are solved and great ones often are not.
func anyNet(random *rand.Rand, nodes int64, links int, size int64) impl.Net {
	n := impl.Net{Nodes: nodes, Wants: make([]int64, nodes)}
	for node := range n.Wants {
		n.Wants[node] = random.Int63n(2*min(size, impl.MaxFlow)+1) - min(size, impl.MaxFlow)
		if random.Int63n(nodes) == 0 {
			most := min(size, impl.MaxLevel)
			n.Fixed = append(n.Fixed, fixed(int64(node), random.Int63n(2*most+1)-most))
		}
	}
	if len(n.Fixed) == 0 && random.Intn(4) > 0 {
		n.Fixed = []impl.Fixed{fixed(random.Int63n(nodes), random.Int63n(size)%impl.MaxLevel)}
	}
	for range links {
		from, on := random.Int63n(nodes), 1+random.Int63n(max(nodes-1, 1))
		if to := (from + on) % nodes; to != from {
			n.Links = append(n.Links, link(from, to, 1+random.Int63n(min(size, impl.MaxGive))))
		}
	}
	return n
}

func TestNetLooseOfAny(t *testing.T) {
	random := rand.New(rand.NewSource(70))
	loose := 0
	for range 5000 {
		n := anyNet(random, 1+random.Int63n(impl.MaxNodes), random.Intn(16), 100)
		want := plainLoose(n)
		sameLoose(t, "any", n, want)
		if t.Failed() {
			t.Fatalf("of %+v", n)
		}
		if len(want) > 0 && int64(len(want)) < n.Nodes {
			loose++
		}
	}
	if loose < 1000 {
		t.Errorf("%d are loose in part: too few to tell", loose)
	}
}
