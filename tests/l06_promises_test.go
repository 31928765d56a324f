package tests

import (
	"math"
	"math/rand"
	"testing"

	"loop.example/g00068/impl"
)

func TestPromise14ProductsDoNotMindTheOrder(t *testing.T) {
	random := rand.New(rand.NewSource(63))
	for range 5000 {
		a, b := anyCnum(random), anyCnum(random)
		if random.Intn(10) == 0 {
			b = wrongCnums()[random.Intn(len(wrongCnums()))]
		}
		sameCnum(t, "a product changed over", impl.CnumMul(a, b), impl.CnumMul(b, a))
		if t.Failed() {
			t.Fatalf("of %v and %v", a, b)
		}
	}
}

func TestPromise14PolysBitByBit(t *testing.T) {
	random := rand.New(rand.NewSource(64))
	for range 3000 {
		coefs, z := anyMeasures(random, 1+random.Intn(impl.MaxPoly)), anyCnum(random)
		sameAtPlace(t, "any", coefs, z, plainAt(coefs, z))
		roots := anyCnums(random, random.Intn(impl.MaxPoly))
		samePoly(t, "any", roots, plainPoly(roots)...)
		if t.Failed() {
			t.Fatalf("of %v at %v, or %v", coefs, z, roots)
		}
	}
}

// Small whole roots are reckoned without any rounding, so a root is one to the last bit.
func TestPromise14RootsAreRoots(t *testing.T) {
	random := rand.New(rand.NewSource(65))
	for range 500 {
		var roots []impl.Cnum
		for range 1 + random.Intn(4) {
			re, im := float64(random.Intn(9)-4), float64(random.Intn(9)-4)
			roots = append(roots, cnum(re, im), cnum(re, -im))
		}
		var coefs []float64
		for _, c := range impl.PolyOf(roots) {
			if c.Im != 0 {
				t.Fatalf("roots %v in pairs: the coef %v", roots, c)
			}
			coefs = append(coefs, c.Re)
		}
		for _, root := range roots {
			if at := impl.PolyAt(coefs, root); at != cnum(0, 0) {
				t.Fatalf("the roots %v make %v, which is %v at %v", roots, coefs, at, root)
			}
		}
	}
}

func TestPromise15DrivesStayWithinTheirLimits(t *testing.T) {
	random := rand.New(rand.NewSource(66))
	low, high, between := 0, 0, 0
	for range 5000 {
		l := anyLoop(random)
		out := impl.LoopRun(l, (2*random.Float64()-1)*100, anyWants(random, 60))
		for _, drive := range out.Drives {
			switch {
			case !(drive >= l.Low && drive <= l.High):
				t.Fatalf("%+v: a drive of %v", l, drive)
			case drive == l.Low:
				low++
			case drive == l.High:
				high++
			default:
				between++
			}
		}
	}
	if min(low, high, between) < 2000 {
		t.Errorf("%d at Low, %d at High, %d between: too few to tell", low, high, between)
	}
}

// rests tells by whole numbers, in parts of the whole, whether both poles of the loop lie within the circle.
func rests(a1 int64, a2 int64, whole int64) bool {
	off := max(a1, -a1)
	under := a1*a1 + 4*a2*whole
	if under < 0 {
		return -a2 < whole
	}
	return off < 2*whole && under < (2*whole-off)*(2*whole-off)
}

func TestPromise15LoopsThatComeToRest(t *testing.T) {
	const whole = 32
	for a1 := int64(-3 * whole); a1 <= 3*whole; a1++ {
		for a2 := int64(-2 * whole); a2 <= 2*whole; a2++ {
			want := int64(2)
			if rests(a1, a2, whole) {
				want = 1
			}
			if got := impl.PolesTwo(float64(a1)/whole, float64(a2)/whole); got != want {
				t.Fatalf("PolesTwo of %d and %d parts of %d: got %d, want %d", a1, a2, whole, got, want)
			}
		}
	}
}

// follow tells how far off the last two values of a loop are, from the start of two values.
func follow(a1 float64, a2 float64, last float64, ahead float64, steps int) float64 {
	for range steps {
		last, ahead = a1*last+a2*ahead, last
	}
	return math.Abs(last) + math.Abs(ahead)
}

func TestPromise15ValuesComeToRest(t *testing.T) {
	random := rand.New(rand.NewSource(67))
	told := [3]int{}
	for range 3000 {
		a1, a2 := 6*random.Float64()-3, 4*random.Float64()-2
		one, other := follow(a1, a2, 1, 0, 400), follow(a1, a2, 0, 1, 400)
		tells := impl.PolesTwo(a1, a2)
		told[tells]++
		// Poles near the circle need more steps than these to show where they lie.
		if one+other < 1e-3 && tells != 1 || one+other > 1e3 && tells != 2 {
			t.Fatalf("PolesTwo of %v and %v: got %d, and %v off", a1, a2, tells, one+other)
		}
	}
	if told[0] != 0 || told[1] < 300 || told[2] < 300 {
		t.Errorf("told as %v: too few to tell", told)
	}
}
