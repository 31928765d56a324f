package tests

import (
	"math"
	"math/rand"
	"slices"
	"testing"

	"loop.example/g00068/impl"
)

// sameAtPlace also holds what was handed in against what it was.
func sameAtPlace(t *testing.T, what string, coefs []float64, z impl.Cnum, want impl.Cnum) {
	t.Helper()
	before := slices.Clone(coefs)
	sameCnum(t, "PolyAt, "+what, impl.PolyAt(coefs, z), want)
	for k := range coefs {
		sameBits(t, "PolyAt, coefs, "+what, coefs[k], before[k])
	}
}

func sameCnums(t *testing.T, what string, got []impl.Cnum, want []impl.Cnum) {
	t.Helper()
	if len(got) != len(want) {
		t.Errorf("%s: got %v, want %v", what, got, want)
		return
	}
	for k := range got {
		sameCnum(t, what, got[k], want[k])
	}
}

// samePoly also holds what was handed in against what it was, and asks once more when the first answer is spoilt.
func samePoly(t *testing.T, what string, roots []impl.Cnum, want ...impl.Cnum) {
	t.Helper()
	before := slices.Clone(roots)
	got := impl.PolyOf(roots)
	sameCnums(t, "PolyOf, "+what, got, want)
	for k := range got {
		got[k] = cnum(-77, 77)
	}
	sameCnums(t, "PolyOf, roots, "+what, roots, before)
	sameCnums(t, "PolyOf, once more, "+what, impl.PolyOf(roots), want)
}

func plainAt(coefs []float64, z impl.Cnum) impl.Cnum {
	back := slices.Clone(coefs)
	slices.Reverse(back)
	sum := cnum(back[0], 0)
	for _, coef := range back[1:] {
		sum = plainMul(sum, z)
		sum.Re = plus(sum.Re, coef)
	}
	return sum
}

// standsAt is nought and nought beside the list.
func standsAt(list []impl.Cnum, k int) impl.Cnum {
	if k < 0 || k >= len(list) {
		return cnum(0, 0)
	}
	return list[k]
}

func plainPoly(roots []impl.Cnum) []impl.Cnum {
	coefs := []impl.Cnum{cnum(1, 0)}
	for _, root := range roots {
		var next []impl.Cnum
		for k := 0; k <= len(coefs); k++ {
			before, product := standsAt(coefs, k-1), plainMul(standsAt(coefs, k), root)
			next = append(next, cnum(minus(before.Re, product.Re), minus(before.Im, product.Im)))
		}
		coefs = next
	}
	return coefs
}

func anyMeasures(random *rand.Rand, count int) []float64 {
	list := make([]float64, count)
	for i := range list {
		list[i] = anyMeasure(random)
	}
	return list
}

func anyCnums(random *rand.Rand, count int) []impl.Cnum {
	list := make([]impl.Cnum, count)
	for i := range list {
		list[i] = anyCnum(random)
	}
	return list
}

func TestPolyAtByHand(t *testing.T) {
	sameAtPlace(t, "a constant", []float64{5}, cnum(3, 4), cnum(5, 0))
	sameAtPlace(t, "the constant one first", []float64{5, 7}, cnum(2, 0), cnum(19, 0))
	sameAtPlace(t, "three", []float64{1, 2, 3}, cnum(10, 0), cnum(321, 0))
	sameAtPlace(t, "at nought", []float64{1, 2, 3}, cnum(0, 0), cnum(1, 0))
	sameAtPlace(t, "a root", []float64{1, 0, 1}, cnum(0, 1), cnum(0, 0))
	sameAtPlace(t, "the other root", []float64{1, 0, 1}, cnum(0, -1), cnum(0, minusNought()))
	sameAtPlace(t, "z itself", []float64{0, 1}, cnum(-0.3, 0.7), cnum(-0.3, 0.7))
	sameAtPlace(t, "z times z", []float64{0, 0, 1}, cnum(1, 2), cnum(-3, 4))
	sameAtPlace(t, "in two parts", []float64{2, -3, 1, 4}, cnum(1, 1), cnum(-9, 7))
	sameAtPlace(t, "halves", []float64{0.5, 0.25, 0.125}, cnum(0.5, 2), cnum(0.15625, 0.75))
}

func TestPolyAtNoughts(t *testing.T) {
	below := minusNought()
	sameAtPlace(t, "a constant below", []float64{below}, cnum(3, 4), cnum(below, 0))
	sameAtPlace(t, "Im stays below", []float64{1, -1}, cnum(-2, 0), cnum(3, below))
	sameAtPlace(t, "Im comes up again", []float64{1, -1, 0}, cnum(-2, 0), cnum(3, below))
	sameAtPlace(t, "Im by one below", []float64{1, 1}, cnum(2, below), cnum(3, 0))
	sameAtPlace(t, "Im by both below", []float64{1, 1}, cnum(-2, below), cnum(-1, below))
	sameAtPlace(t, "Re of two noughts", []float64{below, 0}, cnum(0, 0), cnum(0, 0))
	sameAtPlace(t, "Re of two below", []float64{below, 0}, cnum(below, 0), cnum(below, 0))
	for _, z := range signedNoughts() {
		for _, coefs := range [][]float64{{0, 0}, {0, below}, {below, 0}, {below, below}, {below, below, below}, {0, below, 0}, {below, 1}, {below, -1}} {
			sameAtPlace(t, "signed noughts", coefs, z, plainAt(coefs, z))
		}
	}
}

func TestPolyAtAtItsLimits(t *testing.T) {
	sameAtPlace(t, "no coefs", nil, cnum(1, 0), cnum(0, 0))
	sameAtPlace(t, "an empty list", []float64{}, cnum(1, 0), cnum(0, 0))
	sameAtPlace(t, "MaxPoly", repeated(-1, impl.MaxPoly), cnum(1, 0), cnum(-impl.MaxPoly, 0))
	sameAtPlace(t, "one more", repeated(-1, impl.MaxPoly+1), cnum(1, 0), cnum(0, 0))
	sameAtPlace(t, "MaxList", repeated(-1, impl.MaxList), cnum(1, 0), cnum(0, 0))
	sameAtPlace(t, "one more than MaxList", repeated(-1, impl.MaxList+1), cnum(1, 0), cnum(0, 0))
	greatest := plainAt(repeated(edge, impl.MaxPoly), cnum(edge, -edge))
	sameAtPlace(t, "all at the edge", repeated(edge, impl.MaxPoly), cnum(edge, -edge), greatest)
	if math.Abs(greatest.Re) < 1e140 || math.IsInf(greatest.Re, 0) || math.IsInf(greatest.Im, 0) {
		t.Errorf("the greatest is %v", greatest)
	}
	sameAtPlace(t, "both edges", []float64{-edge, edge}, cnum(-edge, edge), cnum(-1e18-1e9, 1e18))
}

func TestPolyAtOfWrongOnes(t *testing.T) {
	for _, x := range noMeasures() {
		sameAtPlace(t, "one wrong coef", []float64{x}, cnum(1, 1), cnum(0, 0))
		for place := range 4 {
			coefs := []float64{-1, -2, -3, -4}
			coefs[place] = x
			sameAtPlace(t, "a wrong coef", coefs, cnum(1, 1), cnum(0, 0))
			sameAtPlace(t, "a wrong coef at nought", coefs, cnum(0, 0), cnum(0, 0))
		}
	}
	for _, wrong := range wrongCnums() {
		sameAtPlace(t, "a wrong z", []float64{-1, 2}, wrong, cnum(0, 0))
		sameAtPlace(t, "a wrong z that would not count", []float64{-1}, wrong, cnum(0, 0))
		sameAtPlace(t, "a wrong z of no coefs", nil, wrong, cnum(0, 0))
	}
}

func TestPolyOfByHand(t *testing.T) {
	samePoly(t, "none", nil, cnum(1, 0))
	samePoly(t, "an empty list", []impl.Cnum{}, cnum(1, 0))
	samePoly(t, "2", []impl.Cnum{cnum(2, 0)}, cnum(-2, 0), cnum(1, 0))
	samePoly(t, "-2", []impl.Cnum{cnum(-2, 0)}, cnum(2, 0), cnum(1, 0))
	samePoly(t, "both parts", []impl.Cnum{cnum(3, 4)}, cnum(-3, -4), cnum(1, 0))
	samePoly(t, "2 and 3", []impl.Cnum{cnum(2, 0), cnum(3, 0)}, cnum(6, 0), cnum(-5, 0), cnum(1, 0))
	samePoly(t, "i and -i", []impl.Cnum{cnum(0, 1), cnum(0, -1)}, cnum(1, 0), cnum(0, 0), cnum(1, 0))
	samePoly(t, "i and i", []impl.Cnum{cnum(0, 1), cnum(0, 1)}, cnum(-1, 0), cnum(0, -2), cnum(1, 0))
	samePoly(t, "1, 2 and 3", []impl.Cnum{cnum(1, 0), cnum(2, 0), cnum(3, 0)}, cnum(-6, 0), cnum(11, 0), cnum(-6, 0), cnum(1, 0))
	samePoly(t, "1 and 2 with parts", []impl.Cnum{cnum(1, 1), cnum(2, -1)}, cnum(3, 1), cnum(-3, 0), cnum(1, 0))
	samePoly(t, "in order", []impl.Cnum{cnum(1, 0), cnum(0x1p-53, 0), cnum(-1, 0)}, plainPoly([]impl.Cnum{cnum(1, 0), cnum(0x1p-53, 0), cnum(-1, 0)})...)
}

func TestPolyOfNoughts(t *testing.T) {
	for _, a := range signedNoughts() {
		samePoly(t, "a nought", []impl.Cnum{a}, cnum(0, 0), cnum(1, 0))
		for _, b := range signedNoughts() {
			samePoly(t, "noughts", []impl.Cnum{a, b}, plainPoly([]impl.Cnum{a, b})...)
			samePoly(t, "noughts and others", []impl.Cnum{a, cnum(-1, -1), b, cnum(1, 0)}, plainPoly([]impl.Cnum{a, cnum(-1, -1), b, cnum(1, 0)})...)
		}
	}
}

func TestPolyOfAtItsLimits(t *testing.T) {
	ones := slices.Repeat([]impl.Cnum{cnum(-1, 0)}, impl.MaxPoly-1)
	var rows []impl.Cnum
	for _, chosen := range []float64{1, 15, 105, 455, 1365, 3003, 5005, 6435, 6435, 5005, 3003, 1365, 455, 105, 15, 1} {
		rows = append(rows, cnum(chosen, 0))
	}
	samePoly(t, "MaxPoly less one", ones, rows...)
	samePoly(t, "MaxPoly", append(ones, cnum(-1, 0)))
	samePoly(t, "MaxList", slices.Repeat(ones[:1], impl.MaxList))
	samePoly(t, "one more than MaxList", slices.Repeat(ones[:1], impl.MaxList+1))
	greatest := slices.Repeat([]impl.Cnum{cnum(edge, -edge)}, impl.MaxPoly-1)
	samePoly(t, "all at the edge", greatest, plainPoly(greatest)...)
}

func TestPolyOfWrongOnes(t *testing.T) {
	for _, wrong := range wrongCnums() {
		samePoly(t, "a wrong root", []impl.Cnum{wrong})
		for place := range 3 {
			roots := []impl.Cnum{cnum(1, 0), cnum(0, 0), cnum(0, 2)}
			roots[place] = wrong
			samePoly(t, "a wrong root among others", roots)
		}
		samePoly(t, "too many and one wrong", append(slices.Repeat([]impl.Cnum{cnum(1, 0)}, impl.MaxPoly), wrong))
	}
}

func TestPolesTwoByHand(t *testing.T) {
	above, under := math.Nextafter(1, 2), math.Nextafter(1, 0)
	for _, c := range []struct {
		a1, a2 float64
		want   int64
	}{
		{0, 0, 1},
		{minusNought(), minusNought(), 1},
		{0.5, 0.25, 1},
		{-0.5, 0.25, 1},
		{0.5, 0.5, 2},
		{-0.5, 0.5, 2},
		{1, 0.5, 2},
		{0.5, math.Nextafter(0.5, 0), 1},
		{-0.5, math.Nextafter(0.5, 0), 1},
		{0, 1, 2},
		{0, under, 1},
		{0, above, 2},
		{0, -1, 2},
		{0, -under, 1},
		{0, -above, 2},
		{1, 0, 2},
		{1, minusNought(), 2},
		{under, 0, 1},
		{-1, 0, 2},
		{-under, 0, 1},
		{1, -0.5, 1},
		{1.5, -0.75, 1},
		{-1.5, -0.75, 1},
		{1.5, -0.5, 2},
		{1.75, -0.8125, 1},
		{2, -1, 2},
		{-2, -1, 2},
		{2, -under, 2},
		{2 - 0x1p-52, -under, 1},
		{-2 + 0x1p-52, -under, 1},
		{1.9, -0.95, 1},
		{3, -2.5, 2},
		{0, -2, 2},
		{0, edge, 2},
		{0, -edge, 2},
		{edge, 0, 2},
		{-edge, 0, 2},
		{edge, -edge, 2},
		{0x1p-60, 0.5, 1},
		{0x1p-60, 1 - 0x1p-53, 1},
		{0x1p-60, 1, 2},
	} {
		if got := impl.PolesTwo(c.a1, c.a2); got != c.want {
			t.Errorf("PolesTwo of %v and %v: got %d, want %d", c.a1, c.a2, got, c.want)
		}
	}
	for _, x := range noMeasures() {
		for _, other := range []float64{0, 0.5, -2, edge, x} {
			if first, second := impl.PolesTwo(x, other), impl.PolesTwo(other, x); first != 0 || second != 0 {
				t.Errorf("PolesTwo of %v and %v: got %d and %d, want 0", x, other, first, second)
			}
		}
	}
}
