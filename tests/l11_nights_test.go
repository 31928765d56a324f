package tests

import (
	"math"
	"math/rand"
	"slices"
	"testing"

	"loop.example/g00068/impl"
)

const faint = math.SmallestNonzeroFloat64

// spare is the same list with memory behind it, which is no one else's to write to.
func spare(list []float64) []float64 {
	if list == nil {
		return nil
	}
	return append(slices.Clone(list), -7, -7)[:len(list)]
}

// keptAs tells whether a list that was made by spare is still what it was, behind its end too.
func keptAs(list []float64, before []float64) bool {
	if list == nil {
		return true
	}
	alike := func(a float64, b float64) bool { return math.Float64bits(a) == math.Float64bits(b) }
	return slices.EqualFunc(list[:len(list)+2], slices.Concat(before, []float64{-7, -7}), alike)
}

// sameNight asks both calls for the night line of a list.
func sameNight(t *testing.T, what string, list []float64, at int64, line float64) {
	t.Helper()
	given := spare(list)
	if got := impl.NightAt(given); got != at {
		t.Errorf("NightAt, %s: got %d, want %d", what, got, at)
	}
	sameBits(t, "NightLine, "+what, impl.NightLine(given), line)
	if !keptAs(given, list) {
		t.Errorf("%s: the reads were changed", what)
	}
}

func sameLeak(t *testing.T, what string, list []float64, homes int64, each float64, want float64) {
	t.Helper()
	given := spare(list)
	sameBits(t, "LeakOf, "+what, impl.LeakOf(given, homes, each), want)
	if !keptAs(given, list) {
		t.Errorf("LeakOf, %s: the reads were changed", what)
	}
}

func TestNightByHand(t *testing.T) {
	gap := math.NaN()
	sameNight(t, "the last ones", []float64{5, 1, 1, 1, 1, 0.5}, 2, 0.875)
	sameNight(t, "the first ones", []float64{1, 1, 1, 1, 2, 1, 1, 2}, 0, 1)
	sameNight(t, "in the middle", []float64{9, 3, 2, 1, 2, 9, 9}, 1, 2)
	sameNight(t, "the first of several", []float64{3, 1, 2, 3, 4, 1, 2, 3, 4}, 0, 2.25)
	sameNight(t, "all alike", repeated(7, 9), 0, 7)
	sameNight(t, "just as many", []float64{1, 2, 3, 5}, 0, 2.75)
	sameNight(t, "behind a gap", []float64{1, 1, 1, gap, 1, 2, 3, 4, 1}, 4, 2.5)
	sameNight(t, "ahead of a gap", []float64{1, 2, 1, 2, gap, 1, 2, 3, 4}, 0, 1.5)
	sameNight(t, "between gaps", []float64{gap, 0, 0, 0, gap, 9, 8, 7, 6, gap, gap, 0, 0, 0}, 5, 7.5)
	sameNight(t, "below nought", []float64{-1, -1, -1, -1, -2, 0, -1, -1}, 1, -1.25)
	sameNight(t, "the greatest", repeated(edge, 4), 0, edge)
	sameNight(t, "the least", append(repeated(edge, 4), repeated(-edge, 5)...), 4, -edge)
}

func TestNightWithoutOne(t *testing.T) {
	gap := math.NaN()
	sameNight(t, "nil", nil, -1, 0)
	sameNight(t, "empty", []float64{}, -1, 0)
	sameNight(t, "one read", []float64{1}, -1, 0)
	sameNight(t, "one too few", []float64{1, 2, 3}, -1, 0)
	sameNight(t, "gaps alone", repeated(gap, 9), -1, 0)
	sameNight(t, "a gap among four", []float64{1, 2, gap, 3}, -1, 0)
	sameNight(t, "a gap each four", []float64{1, 1, 1, gap, 1, 1, 1, gap, 1, 1, 1}, -1, 0)
}

// Sums go in order from +0 on, each rounded by itself.
func TestNightByRoundedSums(t *testing.T) {
	gap := math.NaN()
	lost := []float64{edge, 0x1p-24, -edge, 0}
	kept := []float64{edge, -edge, 0x1p-24, 0}
	sameNight(t, "what is lost", lost, 0, 0)
	sameNight(t, "what is kept", kept, 0, 0x1p-26)
	sameNight(t, "as little by what is lost", slices.Concat(lost, []float64{gap}, repeated(0, 4)), 0, 0)
	sameNight(t, "less by what is lost", slices.Concat(kept, []float64{gap}, lost), 5, 0)
	sameNight(t, "plain floats", []float64{0.1, 0.2, 0.3, 0.4}, 0, 0.25)
	sameNight(t, "a rounded sum", []float64{0.1, 0.2, 0.3, 0}, 0, 0.15000000000000002)
	sameNight(t, "minus noughts", repeated(minusNought(), 4), 0, 0)
	sameNight(t, "both noughts", append(repeated(0, 4), repeated(minusNought(), 4)...), 0, 0)
	sameNight(t, "too faint for a quarter", []float64{faint, 0, 0, 0}, 0, 0)
	sameNight(t, "too faint, below nought", []float64{-faint, 0, 0, 0}, 0, minusNought())
}

func TestNightPastEachMissingRead(t *testing.T) {
	for _, x := range noMeasures() {
		for place := range 4 {
			list := []float64{3, 2, 1, 0}
			list[place] = x
			sameNight(t, "missing among four", list, -1, 0)
			sameNight(t, "missing ahead of four", append(list, 9, 9, 9, 9), int64(place+1), sumOfFour(place)/4)
		}
	}
}

// sumOfFour is the least sum behind the missing place of 3, 2, 1, 0, 9, 9, 9, 9.
func sumOfFour(place int) float64 {
	return []float64{2 + 1 + 0 + 9, 1 + 0 + 9 + 9, 0 + 9 + 9 + 9, 9 + 9 + 9 + 9}[place]
}

func TestNightSize(t *testing.T) {
	reads := append(repeated(2, impl.MaxList-4), repeated(1, 4)...)
	sameNight(t, "MaxList reads", reads, impl.MaxList-4, 1)
	sameNight(t, "one more", append(reads, 1), 0, 0)
	sameNight(t, "MaxList missing reads", repeated(math.NaN(), impl.MaxList), -1, 0)
	sameNight(t, "one more missing read", repeated(math.NaN(), impl.MaxList+1), 0, 0)
	sameLeak(t, "MaxList reads", reads, 2, 0.25, 0.5)
	sameLeak(t, "one more", append(reads, 1), 2, 0.25, 0)
	sameLeak(t, "one more, less than nothing each", append(reads, 1), 2, -1, 0)
}

func TestLeakByHand(t *testing.T) {
	reads := []float64{5, 1, 1, 1, 1, 0.5}
	sameLeak(t, "two homes", reads, 2, 0.25, 0.375)
	sameLeak(t, "no homes", reads, 0, 0.25, 0.875)
	sameLeak(t, "nothing each", reads, 9, 0, 0.875)
	sameLeak(t, "less than nothing each", reads, 3, -1, 3.875)
	sameLeak(t, "no leak", reads, 7, 0.125, 0)
	sameLeak(t, "more than there is", reads, 8, 0.125, 0)
	sameLeak(t, "far more than there is", reads, impl.MaxFlow, edge, 0)
	sameLeak(t, "below nought", repeated(-4, 4), 1, 1, 0)
	sameLeak(t, "back above nought", repeated(-4, 4), 1, -5, 1)
	sameLeak(t, "the most homes", reads, impl.MaxFlow, -1, impl.MaxFlow+0.875)
	sameLeak(t, "the most of all", repeated(edge, 4), impl.MaxFlow, -edge, edge*impl.MaxFlow+edge)
}

func TestLeakIsRoundedTwice(t *testing.T) {
	sameLeak(t, "a rounded product", []float64{1.6, 0, 0, 0}, 3, 0.1, 0.09999999999999998)
	sameLeak(t, "nought less nought", repeated(0, 4), 0, 1, 0)
	sameLeak(t, "minus nought less nought", []float64{-faint, 0, 0, 0}, 0, 1, minusNought())
	sameLeak(t, "minus nought less minus nought", []float64{-faint, 0, 0, 0}, 0, -1, 0)
	sameLeak(t, "minus nought each", repeated(2, 4), 5, minusNought(), 2)
}

func TestLeakOfWhatIsWrong(t *testing.T) {
	reads := repeated(8, 4)
	sameLeak(t, "no homes too many", reads, impl.MaxFlow, 0, 8)
	for what, homes := range beside(0, impl.MaxFlow) {
		sameLeak(t, "homes "+what, reads, homes, 0, 0)
		sameLeak(t, "homes "+what+", more each", reads, homes, 1, 0)
		sameLeak(t, "homes "+what+", less each", reads, homes, -1, 0)
	}
	for _, each := range noMeasures() {
		sameLeak(t, "each no measure", reads, 0, each, 0)
		sameLeak(t, "each no measure, one home", reads, 1, each, 0)
	}
	for _, list := range [][]float64{nil, {}, {8}, {8, 8, 8}, {8, 8, math.NaN(), 8, 8}} {
		sameLeak(t, "no night line", list, 1, -5, 0)
		sameLeak(t, "no night line, no homes", list, 0, 5, 0)
	}
}

// plainNight goes through all places where four may begin.
func plainNight(list []float64) (int64, float64) {
	at, least := int64(-1), 0.0
	for i := 0; i+4 <= len(list); i++ {
		sum, there := 0.0, 0
		for _, x := range list[i : i+4] {
			if math.Abs(x) <= edge {
				sum, there = plus(sum, x), there+1
			}
		}
		if there == 4 && (at < 0 || sum < least) {
			at, least = int64(i), sum
		}
	}
	return at, least / 4
}

// anyReads are such as come near each other, some of them missing.
func anyReads(random *rand.Rand, count int) []float64 {
	list := make([]float64, count)
	for i := range list {
		switch random.Intn(20) {
		case 0:
			list[i] = noMeasures()[random.Intn(len(noMeasures()))]
		case 1:
			list[i] = anyMeasure(random)
		case 2, 3:
			list[i] = float64(random.Intn(3))
		default:
			list[i] = 10 + random.Float64()
		}
	}
	return list
}

func TestNightAgainstPlain(t *testing.T) {
	random := rand.New(rand.NewSource(109))
	found := 0
	for range 4000 {
		list := anyReads(random, random.Intn(30))
		at, line := plainNight(list)
		sameNight(t, "any reads", list, at, line)
		homes, each := anyNumber(random, impl.MaxFlow), anyMeasure(random)
		leak := minus(line, times(each, float64(homes)))
		if at < 0 || leak < 0 {
			leak = 0
		}
		sameLeak(t, "any reads", list, homes, each, leak)
		if at > 0 && leak > 0 {
			found++
		}
	}
	if found < 1000 {
		t.Errorf("%d leaks: too few to tell", found)
	}
}
