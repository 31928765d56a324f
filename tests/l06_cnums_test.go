package tests

import (
	"math"
	"math/big"
	"math/rand"
	"testing"

	"loop.example/g00068/impl"
)

// exactly is a number with room for each sum and product of two floats of chapter 7, so that
// what is made of it is rounded once, as IEEE 754 has it.
func exactly(x float64) *big.Float {
	return new(big.Float).SetPrec(2200).SetFloat64(x)
}

func rounded(x *big.Float) float64 {
	near, _ := x.Float64()
	return near
}

func plus(a float64, b float64) float64 {
	x := exactly(a)
	return rounded(x.Add(x, exactly(b)))
}

func minus(a float64, b float64) float64 {
	return plus(a, -b)
}

func times(a float64, b float64) float64 {
	x := exactly(a)
	return rounded(x.Mul(x, exactly(b)))
}

func cnum(re float64, im float64) impl.Cnum {
	return impl.Cnum{Re: re, Im: im}
}

func sameCnum(t *testing.T, what string, got impl.Cnum, want impl.Cnum) {
	t.Helper()
	sameBits(t, what+", Re", got.Re, want.Re)
	sameBits(t, what+", Im", got.Im, want.Im)
}

func sameMul(t *testing.T, what string, a impl.Cnum, b impl.Cnum, want impl.Cnum) {
	t.Helper()
	sameCnum(t, "CnumMul, "+what, impl.CnumMul(a, b), want)
	sameCnum(t, "CnumMul, changed over, "+what, impl.CnumMul(b, a), want)
}

func sameDiv(t *testing.T, what string, a impl.Cnum, b impl.Cnum, want impl.Cnum) {
	t.Helper()
	sameCnum(t, "CnumDiv, "+what, impl.CnumDiv(a, b), want)
}

// wrongCnums have one or two parts that are no measures.
func wrongCnums() []impl.Cnum {
	var wrong []impl.Cnum
	for _, x := range noMeasures() {
		wrong = append(wrong, cnum(x, 0), cnum(0, x), cnum(x, 1), cnum(1, x), cnum(x, x))
	}
	return wrong
}

// signedNoughts are the four Cnums without a size.
func signedNoughts() []impl.Cnum {
	minus := minusNought()
	return []impl.Cnum{cnum(0, 0), cnum(0, minus), cnum(minus, 0), cnum(minus, minus)}
}

func plainMul(a impl.Cnum, b impl.Cnum) impl.Cnum {
	return cnum(minus(times(a.Re, b.Re), times(a.Im, b.Im)), plus(times(a.Re, b.Im), times(a.Im, b.Re)))
}

func plainSize(a impl.Cnum) float64 {
	return plus(times(a.Re, a.Re), times(a.Im, a.Im))
}

func plainDiv(a impl.Cnum, b impl.Cnum) impl.Cnum {
	d := plainSize(b)
	if d == 0 {
		return cnum(0, 0)
	}
	re := plus(times(a.Re, b.Re), times(a.Im, b.Im))
	im := minus(times(a.Im, b.Re), times(a.Re, b.Im))
	return cnum(re/d, im/d)
}

// anyMeasure takes all sizes of floats, whole ones, noughts and the edges.
func anyMeasure(random *rand.Rand) float64 {
	sign := float64(1 - 2*random.Intn(2))
	switch random.Intn(8) {
	case 0:
		return sign * 0
	case 1:
		return sign * edge
	case 2:
		return sign * float64(random.Intn(10))
	case 3:
		return sign * math.Ldexp(random.Float64(), -random.Intn(1075))
	case 4:
		return sign * random.Float64() * edge
	}
	return sign * random.Float64()
}

func anyCnum(random *rand.Rand) impl.Cnum {
	return cnum(anyMeasure(random), anyMeasure(random))
}

func TestCnumMulByHand(t *testing.T) {
	sameMul(t, "whole ones", cnum(1, 2), cnum(3, 4), cnum(-5, 10))
	sameMul(t, "four kinds of products", cnum(2, 3), cnum(5, 7), cnum(-11, 29))
	sameMul(t, "signs", cnum(-2, 3), cnum(5, -7), cnum(11, 29))
	sameMul(t, "i times i", cnum(0, 1), cnum(0, 1), cnum(-1, 0))
	sameMul(t, "by 1", cnum(0.1, 0.2), cnum(1, 0), cnum(0.1, 0.2))
	sameMul(t, "by i", cnum(0.1, 0.2), cnum(0, 1), cnum(-0.2, 0.1))
	sameMul(t, "by its conjugate", cnum(3, 4), cnum(3, -4), cnum(25, 0))
	sameMul(t, "parts of tenths", cnum(0.1, 0.2), cnum(0.3, 0.4), cnum(-0.05000000000000002, 0.1))
	sameMul(t, "tiny", cnum(0x1p-1074, 0), cnum(0x1p-1, 0x3p-1), cnum(0, 0x1p-1073))
	sameMul(t, "the edges", cnum(edge, edge), cnum(edge, edge), cnum(0, 2e18))
	sameMul(t, "the edges below", cnum(-edge, edge), cnum(edge, edge), cnum(-2e18, 0))
}

func TestCnumMulNoughts(t *testing.T) {
	below := minusNought()
	sameMul(t, "noughts", cnum(0, 0), cnum(0, 0), cnum(0, 0))
	sameMul(t, "one below", cnum(below, 0), cnum(0, 0), cnum(below, 0))
	sameMul(t, "Re and Re below", cnum(below, 0), cnum(below, 0), cnum(0, below))
	sameMul(t, "Im and Im below", cnum(0, below), cnum(0, below), cnum(0, below))
	sameMul(t, "all below", cnum(below, below), cnum(below, below), cnum(0, 0))
	sameMul(t, "Re and Im below", cnum(below, 0), cnum(0, below), cnum(0, 0))
	sameMul(t, "a nought below and one", cnum(1, 0), cnum(below, 0), cnum(below, 0))
	sameMul(t, "less than nothing and noughts", cnum(-1, -1), cnum(0, 0), cnum(0, below))
	for _, a := range signedNoughts() {
		for _, b := range signedNoughts() {
			sameMul(t, "signed noughts", a, b, plainMul(a, b))
			sameMul(t, "a nought and two", a, cnum(-2, 2), plainMul(a, cnum(-2, 2)))
		}
	}
}

// Here (1+e)(1-e) is 1 as a float, and just below 1 were it put together with the sum.
func TestCnumMulEachByItself(t *testing.T) {
	up, down := 1+0x1p-30, 1-0x1p-30
	sameMul(t, "Re", cnum(up, 1), cnum(down, 1), cnum(0, 2))
	sameMul(t, "Re, the other product", cnum(1, up), cnum(1, down), cnum(0, 2))
	sameMul(t, "Im", cnum(up, -1), cnum(1, down), plainMul(cnum(up, -1), cnum(1, down)))
	sameMul(t, "Im, the first product", cnum(up, 1), cnum(-1, down), cnum(-up-down, 0))
	sameMul(t, "Im, the second product", cnum(1, up), cnum(down, -1), cnum(up+down, 0))
	sameBits(t, "CnumSize", impl.CnumSize(cnum(0x1p27, 1+0x1p-28)), 0x1p54)
}

func TestCnumMulOfWrongOnes(t *testing.T) {
	for _, wrong := range wrongCnums() {
		sameMul(t, "a wrong one", wrong, cnum(3, 4), cnum(0, 0))
		sameMul(t, "a wrong one and one below", wrong, cnum(-3, -4), cnum(0, 0))
		sameMul(t, "a wrong one and nought", wrong, cnum(minusNought(), minusNought()), cnum(0, 0))
		sameMul(t, "two wrong ones", wrong, wrong, cnum(0, 0))
	}
}

func TestCnumSize(t *testing.T) {
	for _, c := range []struct {
		of   impl.Cnum
		size float64
	}{
		{cnum(3, 4), 25},
		{cnum(-3, 4), 25},
		{cnum(3, -4), 25},
		{cnum(-3, -4), 25},
		{cnum(7, 0), 49},
		{cnum(0, -7), 49},
		{cnum(0.1, 0), 0.010000000000000002},
		{cnum(0, 0.1), 0.010000000000000002},
		{cnum(edge, -edge), 2e18},
		{cnum(0x1p-537, 0), 0x1p-1074},
		{cnum(0x1p-538, 0x1p-538), 0},
		{cnum(0x1p-1074, -0x1p-1074), 0},
	} {
		sameBits(t, "CnumSize", impl.CnumSize(c.of), c.size)
	}
	for _, nought := range signedNoughts() {
		sameBits(t, "CnumSize of a nought", impl.CnumSize(nought), 0)
	}
	for _, wrong := range wrongCnums() {
		sameBits(t, "CnumSize of a wrong one", impl.CnumSize(wrong), 0)
	}
}

func TestCnumDivByHand(t *testing.T) {
	below := minusNought()
	sameDiv(t, "whole ones", cnum(-5, 10), cnum(3, 4), cnum(1, 2))
	sameDiv(t, "by one with Im", cnum(1, 2), cnum(0, 2), cnum(1, -0.5))
	sameDiv(t, "by 2", cnum(3, 5), cnum(2, 0), cnum(1.5, 2.5))
	sameDiv(t, "by less than nought", cnum(3, 5), cnum(-2, 0), cnum(-1.5, -2.5))
	sameDiv(t, "1 by i", cnum(1, 0), cnum(0, 1), cnum(0, -1))
	sameDiv(t, "quarters", cnum(3, 1), cnum(1, -1), cnum(1, 2))
	sameDiv(t, "thirds", cnum(1, 1), cnum(3, 0), cnum(3.0/9, 3.0/9))
	sameDiv(t, "by itself", cnum(0.1, 0.7), cnum(0.1, 0.7), cnum(1, 0))
	sameDiv(t, "as the formula rounds", cnum(1, 0), cnum(0.1, 0), cnum(0.1/0.010000000000000002, 0))
	sameDiv(t, "the edges", cnum(edge, edge), cnum(edge, -edge), cnum(0, 1))
	sameDiv(t, "nought by one", cnum(0, 0), cnum(1, 1), cnum(0, 0))
	sameDiv(t, "a nought below by one", cnum(below, below), cnum(1, 0), cnum(below, 0))
	sameDiv(t, "a nought by less", cnum(0, 0), cnum(-1, 0), cnum(0, below))
	sameDiv(t, "noughts of which one is below", cnum(below, 0), cnum(1, 1), cnum(0, 0))
	sameDiv(t, "less than nothing", cnum(-1, 0), cnum(1, 0), cnum(-1, 0))
}

func TestCnumDivByNought(t *testing.T) {
	for _, nought := range signedNoughts() {
		sameDiv(t, "by nought", cnum(1, 2), nought, cnum(0, 0))
		sameDiv(t, "less by nought", cnum(-1, -2), nought, cnum(0, 0))
		sameDiv(t, "nought by nought", nought, nought, cnum(0, 0))
	}
	sameDiv(t, "by what has no size", cnum(1, 2), cnum(0x1p-538, 0), cnum(0, 0))
	sameDiv(t, "by parts without a size", cnum(-1, 2), cnum(0x1p-538, -0x1p-538), cnum(0, 0))
	sameDiv(t, "by the least that has a size", cnum(1, 2), cnum(0x1p-537, 0), cnum(0x1p537, 0x1p538))
	sameDiv(t, "by an Im with a size", cnum(1, 2), cnum(0, 0x1p-537), cnum(0x1p538, -0x1p537))
	sameDiv(t, "by one part with a size", cnum(1, 0), cnum(0x3p-539, 0), cnum(0x3p-539/0x1p-1074, 0))
}

func TestCnumDivOfWrongOnes(t *testing.T) {
	for _, wrong := range wrongCnums() {
		sameDiv(t, "of a wrong one", wrong, cnum(-3, 4), cnum(0, 0))
		sameDiv(t, "by a wrong one", cnum(-3, 4), wrong, cnum(0, 0))
		sameDiv(t, "nought by a wrong one", cnum(minusNought(), 0), wrong, cnum(0, 0))
		sameDiv(t, "of a wrong one by nought", wrong, cnum(0, 0), cnum(0, 0))
		sameDiv(t, "two wrong ones", wrong, wrong, cnum(0, 0))
	}
}

func TestCnumsOfAny(t *testing.T) {
	random := rand.New(rand.NewSource(61))
	for range 20000 {
		a, b := anyCnum(random), anyCnum(random)
		sameMul(t, "any", a, b, plainMul(a, b))
		sameDiv(t, "any", a, b, plainDiv(a, b))
		sameBits(t, "CnumSize of any", impl.CnumSize(a), plainSize(a))
		if t.Failed() {
			t.Fatalf("of %v and %v", a, b)
		}
	}
}
