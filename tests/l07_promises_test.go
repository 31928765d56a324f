package tests

import (
	"math/big"
	"math/rand"
	"testing"

	"loop.example/g00068/impl"
)

// solves holds heads against what chapter 8 says of heads that solve a net.
func solves(n impl.Net, heads []*big.Rat) bool {
	for node := range n.Nodes {
		if head, is := headOfNode(n, node); is {
			if heads[node].Cmp(ofWhole(head)) != 0 {
				return false
			}
			continue
		}
		comes := ofWhole(0)
		for _, l := range n.Links {
			flow := new(big.Rat).Sub(heads[l.From], heads[l.To])
			flow.Mul(flow, ofWhole(l.Give))
			if l.To == node {
				comes.Add(comes, flow)
			}
			if l.From == node {
				comes.Sub(comes, flow)
			}
		}
		if comes.Cmp(ofWhole(n.Wants[node])) != 0 {
			return false
		}
	}
	return true
}

func ratsOf(list []impl.Frac) []*big.Rat {
	rats := make([]*big.Rat, len(list))
	for i, f := range list {
		rats[i] = ratOf(f)
	}
	return rats
}

// onlyOne tells whether a net's rows have one answer: whether each column can be cleared in all rows but one.
func onlyOne(n impl.Net) bool {
	_, rows := plainRows(&strictly{}, n)
	for k := range rows {
		by := k
		for by < len(rows) && rows[by][k].Sign() == 0 {
			by++
		}
		if by == len(rows) {
			return false
		}
		rows[k], rows[by] = rows[by], rows[k]
		for r := k + 1; r < len(rows); r++ {
			f := new(big.Rat).Quo(rows[r][k], rows[k][k])
			for c := range rows[r] {
				rows[r][c].Sub(rows[r][c], new(big.Rat).Mul(f, rows[k][c]))
			}
		}
	}
	return true
}

func TestPromise16TheOneAnswerOrWhyNone(t *testing.T) {
	random := rand.New(rand.NewSource(73))
	seen := map[int64]int{}
	for i := range 6000 {
		size := []int64{3, 30, 300, 1000000}[i%4]
		n := anyNet(random, 1+random.Int63n(impl.MaxNodes), random.Intn(impl.MaxLinks+1), size)
		out := impl.NetSolve(n)
		seen[out.Code]++
		one, loose := onlyOne(n), impl.NetLoose(n)
		switch out.Code {
		case impl.OK:
			if !one || out.At != 0 || int64(len(out.List)) != n.Nodes || !solves(n, ratsOf(out.List)) {
				t.Fatalf("%+v does not solve %+v, or others do", out, n)
			}
		case impl.ErrNone:
			if one || len(loose) == 0 || out.At != loose[0] || len(out.List) != 0 {
				t.Fatalf("%+v of %+v, whose loose nodes are %v", out, n, loose)
			}
		case impl.ErrOver:
			if want, _ := plainSolve(n); !one || want.Code != impl.ErrOver || out.At != 0 || len(out.List) != 0 {
				t.Fatalf("%+v of %+v, and one answer %v", out, n, one)
			}
		default:
			t.Fatalf("%+v of %+v", out, n)
		}
	}
	if min(seen[impl.OK], seen[impl.ErrNone], seen[impl.ErrOver]) < 500 {
		t.Errorf("%v: too few to tell", seen)
	}
}

// A net that is made about heads has these for its answer, since wants follow from them.
func TestPromise16HeadsComeBack(t *testing.T) {
	random := rand.New(rand.NewSource(74))
	solved := 0
	for range 3000 {
		n := anyNet(random, 1+random.Int63n(impl.MaxNodes), random.Intn(30), 40)
		heads := make([]impl.Frac, n.Nodes)
		for node := range heads {
			heads[node] = frac(random.Int63n(201)-100, 1)
		}
		for i, f := range n.Fixed {
			n.Fixed[i].Head = heads[f.Node].Num
		}
		for node := range n.Wants {
			n.Wants[node] = 0
		}
		for _, l := range n.Links {
			flow := l.Give * (heads[l.From].Num - heads[l.To].Num)
			n.Wants[l.From] -= flow
			n.Wants[l.To] += flow
		}
		rest := impl.NetRest(n, heads)
		for _, left := range rest.List {
			if left != frac(0, 1) {
				t.Fatalf("%+v is left of %+v by %v", rest, n, heads)
			}
		}
		if out := impl.NetSolve(n); out.Code == impl.OK {
			solved++
			sameNetOut(t, "heads that come back", out, impl.NetOut{List: heads})
		} else if want, _ := plainSolve(n); out.Code != want.Code {
			t.Fatalf("%+v of %+v", out, n)
		}
		if t.Failed() {
			t.Fatalf("of %+v", n)
		}
	}
	if solved < 500 {
		t.Errorf("%d are solved: too few to tell", solved)
	}
}

// Only at Fixed nodes may something be left.
func TestPromise16WantsAreMet(t *testing.T) {
	random := rand.New(rand.NewSource(75))
	met := 0
	for range 3000 {
		n := anyNet(random, 1+random.Int63n(8), random.Intn(16), 20)
		out := impl.NetSolve(n)
		if out.Code != impl.OK {
			continue
		}
		rest := impl.NetRest(n, out.List)
		if rest.Code != impl.OK {
			continue
		}
		met++
		for node, left := range rest.List {
			if _, is := headOfNode(n, int64(node)); !is && left != frac(0, 1) {
				t.Fatalf("%v is left at %d of %+v", left, node, n)
			}
		}
	}
	if met < 500 {
		t.Errorf("%d are met: too few to tell", met)
	}
}
