package tests

import (
	"math"
	"math/rand"
	"slices"
	"testing"

	"loop.example/g00068/impl"
)

func rung(drag float64, mass float64, give float64) impl.Rung {
	return impl.Rung{Drag: drag, Mass: mass, Give: give}
}

// sameRungs holds each float by its bits, as the values themselves may be NaNs.
func sameRungs(t *testing.T, what string, got []impl.Rung, want []impl.Rung) {
	t.Helper()
	for i := range want {
		sameBits(t, what+", Drag", got[i].Drag, want[i].Drag)
		sameBits(t, what+", Mass", got[i].Mass, want[i].Mass)
		sameBits(t, what+", Give", got[i].Give, want[i].Give)
	}
}

func sameLadder(t *testing.T, what string, list []impl.Rung, turn float64, want impl.Cnum) {
	t.Helper()
	before := slices.Clone(list)
	sameCnum(t, "LadderAt, "+what, impl.LadderAt(list, turn), want)
	sameRungs(t, "LadderAt, what was handed in, "+what, list, before)
}

// plainLadder asks for what is right, and goes word by word as chapter 10 has it.
func plainLadder(list []impl.Rung, turn float64) impl.Cnum {
	z := cnum(0, 0)
	for k := len(list) - 1; k >= 0; k-- {
		y := cnum(0, times(list[k].Give, turn))
		if k < len(list)-1 && (z.Re != 0 || z.Im != 0) {
			part := plainDiv(cnum(1, 0), z)
			y = cnum(plus(y.Re, part.Re), plus(y.Im, part.Im))
		}
		part := plainDiv(cnum(1, 0), y)
		z = cnum(plus(list[k].Drag, part.Re), plus(times(list[k].Mass, turn), part.Im))
	}
	return z
}

func anyRungs(random *rand.Rand, count int) []impl.Rung {
	list := make([]impl.Rung, count)
	wild := random.Intn(2) == 0
	for i := range list {
		list[i] = rung(random.Float64()*4, random.Float64(), random.Float64())
		if wild {
			list[i] = rung(anyMeasure(random), anyMeasure(random), anyMeasure(random))
		}
	}
	return list
}

func TestLadderAtByHand(t *testing.T) {
	sameLadder(t, "none", nil, 1, cnum(0, 0))
	sameLadder(t, "an empty list", []impl.Rung{}, 1, cnum(0, 0))
	sameLadder(t, "Drag alone", []impl.Rung{rung(5, 0, 0)}, 1, cnum(5, 0))
	sameLadder(t, "Mass alone", []impl.Rung{rung(0, 3, 0)}, 2, cnum(0, 6))
	sameLadder(t, "Give alone", []impl.Rung{rung(0, 0, 0.5)}, 4, cnum(0, -0.5))
	sameLadder(t, "all three", []impl.Rung{rung(5, 3, 0.5)}, 2, cnum(5, 5))
	sameLadder(t, "turned back", []impl.Rung{rung(5, 3, 0.5)}, -2, cnum(5, -5))
	sameLadder(t, "less than nought", []impl.Rung{rung(-5, -3, -0.5)}, 2, cnum(-5, -5))
	sameLadder(t, "no turn", []impl.Rung{rung(5, 3, 0.5)}, 0, cnum(5, 0))
	// The last: z is 1. The first: y is 1 and 1 i.
	sameLadder(t, "two, Give ahead", []impl.Rung{rung(0, 0, 1), rung(1, 0, 0)}, 1, cnum(0.5, -0.5))
	// The last: z is -1 i. The first: y is 1 i.
	sameLadder(t, "two, Give behind", []impl.Rung{rung(1, 0, 0), rung(0, 0, 1)}, 1, cnum(1, -1))
	// The last: 2. Then y is a half and 1/2 i, 1 / y is 1 less 1 i, and z 4; then y is 1/4 and 1/4 i.
	sameLadder(t, "three", []impl.Rung{rung(0, 3, 0.25), rung(3, 1, 0.5), rung(2, 0, 0)}, 1, cnum(2, 1))
	sameLadder(t, "behind a rung that is nought", []impl.Rung{rung(2, 3, 0.5), rung(0, 0, 0)}, 1, cnum(2, 1))
	// The one between comes to nought, so that the first one begins anew.
	sameLadder(t, "a nought between", []impl.Rung{rung(1, 0, 1), rung(-1, 0, 0), rung(1, 0, 0)}, 1, cnum(1, -1))
}

func TestLadderAtNoughts(t *testing.T) {
	below := minusNought()
	sameLadder(t, "a Drag below", []impl.Rung{rung(below, 0, 0)}, 1, cnum(0, 0))
	sameLadder(t, "a Mass below", []impl.Rung{rung(0, below, 0)}, 1, cnum(0, 0))
	sameLadder(t, "a turn below", []impl.Rung{rung(1, 1, 1)}, below, cnum(1, 0))
	sameLadder(t, "all below", []impl.Rung{rung(below, below, below)}, below, cnum(0, 0))
	// Both quotients are noughts below beside i, and so is Mass times the turn.
	sameLadder(t, "an Im that stays below", []impl.Rung{rung(0, -1, 0), rung(-2, 0, 0)}, 0, cnum(-2, below))
	sameLadder(t, "an Im that comes up", []impl.Rung{rung(0, 1, 0), rung(-2, 0, 0)}, 0, cnum(-2, 0))
	for _, a := range []float64{0, below, 1, -1} {
		for _, b := range []float64{0, below, 2, -2} {
			for _, turn := range []float64{0, below, 1, -1} {
				list := []impl.Rung{rung(a, b, a), rung(b, a, b), rung(a, a, b)}
				sameLadder(t, "signed noughts", list, turn, plainLadder(list, turn))
			}
		}
	}
}

func TestLadderAtEachByItself(t *testing.T) {
	up, down := 1+0x1p-30, 1-0x1p-30
	// The product of both is 1 as a float, and just below 1 else.
	sameLadder(t, "Mass times the turn", []impl.Rung{rung(0, up, up)}, down, cnum(0, 0))
	sameLadder(t, "Give times the turn", []impl.Rung{rung(3, 0, up), rung(0, up, 0)}, down, cnum(3, 0))
	tenth := 0.1
	sameLadder(t, "as the formula rounds", []impl.Rung{rung(0, 0, tenth)}, 1, cnum(0, -tenth/(float64(tenth*tenth))))
	// The least Give that has a size, and the greatest that has none.
	sameLadder(t, "a size at last", []impl.Rung{rung(7, 0, 0x1p-537)}, 1, cnum(7, -0x1p537))
	sameLadder(t, "no size", []impl.Rung{rung(7, 3, 0x1p-538)}, 1, cnum(7, 3))
	// The size of -2^537 i is too great for a float: 1 by it is nought.
	sameLadder(t, "a size without end", []impl.Rung{rung(7, 3, 0), rung(0, 0, 0x1p-537)}, 1, cnum(7, 3))
	sameLadder(t, "a size just below that", []impl.Rung{rung(7, 3, 0), rung(0, 0, 0x1p-500)}, 1, cnum(7, -0x1p500))
	// 1 by a z without a size is nought, as 1 by nought is.
	sameLadder(t, "a z without a size", []impl.Rung{rung(7, 3, 0.5), rung(0x1p-538, 0, 0)}, 1, cnum(7, 1))
}

func TestLadderAtAtItsLimits(t *testing.T) {
	ones := slices.Repeat([]impl.Rung{rung(1, 1, 1)}, impl.MaxList+1)
	for _, count := range []int{impl.MaxRungs - 1, impl.MaxRungs} {
		sameLadder(t, "not too many", ones[:count], 2, plainLadder(ones[:count], 2))
	}
	most := append([]impl.Rung{rung(5, 3, 0)}, make([]impl.Rung, impl.MaxRungs-1)...)
	sameLadder(t, "MaxRungs, the first alone counts", most, 2, cnum(5, 6))
	sameLadder(t, "one more", append(most, impl.Rung{}), 2, cnum(0, 0))
	for _, count := range []int{impl.MaxRungs + 1, impl.MaxList, impl.MaxList + 1} {
		sameLadder(t, "too many", ones[:count], 2, cnum(0, 0))
	}
	for _, turn := range []float64{edge, -edge} {
		for _, x := range []float64{edge, -edge} {
			list := slices.Repeat([]impl.Rung{rung(x, x, x)}, impl.MaxRungs)
			sameLadder(t, "all at the edge", list, turn, plainLadder(list, turn))
		}
	}
	sameLadder(t, "the edges", []impl.Rung{rung(edge, edge, 0)}, -edge, cnum(edge, -1e18))
}

func TestLadderAtOfWrongOnes(t *testing.T) {
	nought := cnum(0, 0)
	for _, x := range noMeasures() {
		for place := range 3 {
			for _, wrong := range []impl.Rung{rung(x, 1, 1), rung(1, x, 1), rung(1, 1, x), rung(x, x, x)} {
				list := slices.Repeat([]impl.Rung{rung(1, 2, 3)}, 3)
				list[place] = wrong
				sameLadder(t, "a wrong rung", list, 1, nought)
				sameLadder(t, "a wrong rung that would not count", list, 0, nought)
			}
		}
		sameLadder(t, "a wrong turn", []impl.Rung{rung(5, 0, 0)}, x, nought)
		sameLadder(t, "a wrong turn of none", nil, x, nought)
	}
}

func TestSurgePeakByHand(t *testing.T) {
	below, tenth, third := minusNought(), 0.1, 0.3
	for _, c := range []struct {
		wave, change, want float64
	}{
		{10, 2, 20},
		{10, -2, -20},
		{-10, 2, -20},
		{-10, -2, 20},
		{0, 2, 0},
		{0, -2, below},
		{below, 2, below},
		{2, 0, 0},
		{2, below, below},
		{tenth, third, times(tenth, third)},
		{1 + 0x1p-30, 1 - 0x1p-30, 1},
		{edge, edge, 1e18},
		{edge, -edge, -1e18},
		{tiny, 0.5, 0},
		{tiny, -0.5, below},
		{tiny, edge, tiny * edge},
	} {
		sameBits(t, "SurgePeak", impl.SurgePeak(impl.Line{Wave: c.wave}, c.change), c.want)
		full := impl.Line{Sections: 2, Wave: c.wave, Drag: 3, Head: 5, Flow: 7}
		sameBits(t, "SurgePeak of a whole line", impl.SurgePeak(full, c.change), c.want)
		odd := impl.Line{Sections: -1, Wave: c.wave, Drag: -1, Head: math.NaN(), Flow: math.Inf(1)}
		sameBits(t, "SurgePeak of a line that is not right but for its Wave", impl.SurgePeak(odd, c.change), c.want)
	}
	for _, x := range noMeasures() {
		for _, other := range []float64{0, -2, below, edge, x} {
			sameBits(t, "SurgePeak of a wrong Wave", impl.SurgePeak(impl.Line{Sections: 1, Wave: x}, other), 0)
			sameBits(t, "SurgePeak of a wrong change", impl.SurgePeak(impl.Line{Sections: 1, Wave: other}, x), 0)
		}
	}
}
