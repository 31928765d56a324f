package tests

import (
	"math"
	"math/rand"
	"slices"
	"testing"

	"loop.example/g00068/impl"
)

func sameBurst(t *testing.T, what string, list []float64, window int64, times float64, want impl.Burst) {
	t.Helper()
	given := spare(list)
	got := impl.BurstAt(given, window, times)
	if got.At != want.At {
		t.Errorf("BurstAt, %s: got %+v, want %+v", what, got, want)
	}
	sameBits(t, "BurstAt, "+what+", Above", got.Above, want.Above)
	if !keptAs(given, list) {
		t.Errorf("BurstAt, %s: the reads were changed", what)
	}
}

func burst(at int64, above float64) impl.Burst {
	return impl.Burst{At: at, Above: above}
}

func noBurst() impl.Burst {
	return impl.Burst{At: -1}
}

func TestBurstByHand(t *testing.T) {
	calm := []float64{1, 2, 1, 2}
	sameBurst(t, "far above", append(calm, 9), 4, 2, burst(4, 7.5))
	sameBurst(t, "too few ahead", calm, 4, 2, noBurst())
	sameBurst(t, "too few ahead by one", []float64{1, 1, 1, 9}, 4, 2, noBurst())
	sameBurst(t, "just as far", append(calm, 2.5), 4, 2, noBurst())
	sameBurst(t, "a little farther", append(calm, math.Nextafter(2.5, 3)), 4, 2, burst(4, 1+0x1p-51))
	sameBurst(t, "far below", append(calm, -9), 4, 2, noBurst())
	sameBurst(t, "the mean itself", append(calm, 1.5), 4, 0, noBurst())
	sameBurst(t, "the first of several", []float64{1, 1, 2, 9, 99}, 2, 1, burst(2, 1))
	sameBurst(t, "the mean of all of the window", []float64{1, 2, 2.75}, 2, 2, burst(2, 1.25))
	sameBurst(t, "the last ones alone", []float64{100, 1, 1, 5}, 2, 1, burst(3, 4))
	sameBurst(t, "one that is far above no more", []float64{1, 1, 1, 1, 1, 9, 9, 9, 9}, 5, 3, burst(5, 8))
	sameBurst(t, "behind one that is far above", []float64{0, 0, -5, 9, 9, 9, 10}, 2, 1, burst(3, 11.5))
	sameBurst(t, "below nought", []float64{-9, -9, -8}, 2, 1000, burst(2, 1))
	sameBurst(t, "both ends", []float64{-edge, -edge, edge}, 2, edge, burst(2, 2*edge))
}

func TestBurstFreeOfSpread(t *testing.T) {
	sameBurst(t, "all alike", repeated(3, 9), 2, 0, noBurst())
	sameBurst(t, "a little above", []float64{3, 3, math.Nextafter(3, 4)}, 2, edge, burst(2, math.Nextafter(3, 4)-3))
	sameBurst(t, "a little below", []float64{3, 3, math.Nextafter(3, 2)}, 2, 0, noBurst())
	sameBurst(t, "too faint for a product", []float64{0, 0, 1e-200}, 2, 0, noBurst())
	sameBurst(t, "faint, but with a product", []float64{0, 0, 1e-160}, 2, 0, burst(2, 1e-160))
	sameBurst(t, "minus noughts and a nought", []float64{minusNought(), minusNought(), 0}, 2, 0, noBurst())
}

// A window of reads is not one of places: those that are missing are passed by.
func TestBurstPastMissingReads(t *testing.T) {
	for _, x := range noMeasures() {
		sameBurst(t, "between all", []float64{x, 1, x, 2, x, 1, 2, x, 9}, 4, 2, burst(8, 7.5))
		sameBurst(t, "a missing one bursts not", []float64{1, 2, 1, 2, x}, 4, 2, noBurst())
		sameBurst(t, "it does not count", []float64{1, 2, 1, x, 9}, 4, 2, noBurst())
		sameBurst(t, "nothing else", repeated(x, 9), 2, 2, noBurst())
		sameBurst(t, "the last ones alone", []float64{100, 1, x, x, 1, x, 5}, 2, 1, burst(6, 4))
	}
}

func TestBurstIsRoundedByItself(t *testing.T) {
	sameBurst(t, "times itself ahead", []float64{edge, -edge, 1e-160}, 2, 1e-162, burst(2, 1e-160))
	sameBurst(t, "a rounded mean", []float64{0.1, 0.2, 0.3, 0.7}, 3, 1, burst(3, 0.4999999999999999))
	sameBurst(t, "a sum in order", []float64{edge, 0x1p-24, -edge, 1}, 3, 0, burst(3, 1))
}

func TestBurstLimits(t *testing.T) {
	reads := []float64{1, 1, 9}
	sameBurst(t, "the least window", reads, 2, 1, burst(2, 8))
	for what, window := range beside(2, impl.MaxList) {
		sameBurst(t, "window "+what, reads, window, 1, noBurst())
	}
	for _, window := range []int64{0, -1, -2} {
		sameBurst(t, "no window", reads, window, 1, noBurst())
	}
	sameBurst(t, "nought times", reads, 2, 0, burst(2, 8))
	sameBurst(t, "minus nought times", reads, 2, minusNought(), burst(2, 8))
	sameBurst(t, "the most times", reads, 2, edge, burst(2, 8))
	sameBurst(t, "less than nought times", reads, 2, -faint, noBurst())
	sameBurst(t, "far less than nought times", reads, 2, -edge, noBurst())
	for _, times := range noMeasures() {
		sameBurst(t, "times no measure", reads, 2, times, noBurst())
	}
	sameBurst(t, "nil", nil, 2, 1, noBurst())
	sameBurst(t, "empty", []float64{}, 2, 1, noBurst())
	sameBurst(t, "one read", []float64{9}, 2, 1, noBurst())
	sameBurst(t, "two reads", []float64{1, 9}, 2, 1, noBurst())
}

func TestBurstSize(t *testing.T) {
	reads := append(repeated(1, impl.MaxList-1), 9)
	sameBurst(t, "MaxList reads", reads, 2, 1, burst(impl.MaxList-1, 8))
	sameBurst(t, "the greatest window that can be full", reads, impl.MaxList-1, 1, burst(impl.MaxList-1, 8))
	sameBurst(t, "the greatest window", reads, impl.MaxList, 1, noBurst())
	sameBurst(t, "one more read", append(reads, 9), 2, 1, impl.Burst{})
	sameBurst(t, "one more read, the greatest window", append(reads, 9), impl.MaxList, 1, impl.Burst{})
	sameBurst(t, "one more read, a wrong window", append(reads, 9), 1, 1, impl.Burst{})
	sameBurst(t, "one more read, wrong times", append(reads, 9), 2, -1, impl.Burst{})
	sameBurst(t, "one more read, all missing", repeated(math.NaN(), impl.MaxList+1), 2, 1, impl.Burst{})
}

// plainBurst looks at each place anew, by all the reads ahead of it.
func plainBurst(list []float64, window int, many float64) impl.Burst {
	for i, read := range list {
		there := slices.DeleteFunc(slices.Clone(list[:i]), func(x float64) bool { return !(math.Abs(x) <= edge) })
		if !(math.Abs(read) <= edge) || len(there) < window {
			continue
		}
		last := there[len(there)-window:]
		sum, squares := 0.0, 0.0
		for _, x := range last {
			sum = plus(sum, x)
		}
		mean := sum / float64(window)
		for _, x := range last {
			squares = plus(squares, times(minus(x, mean), minus(x, mean)))
		}
		above := minus(read, mean)
		if above > 0 && times(above, above) > times(times(many, many), squares/float64(window)) {
			return burst(int64(i), above)
		}
	}
	return noBurst()
}

func TestBurstAgainstPlain(t *testing.T) {
	random := rand.New(rand.NewSource(110))
	found, none := 0, 0
	for range 4000 {
		list := anyReads(random, random.Intn(40))
		window, many := 2+random.Intn(8), random.Float64()*6
		want := plainBurst(list, window, many)
		sameBurst(t, "any reads", list, int64(window), many, want)
		if want.At > int64(window) {
			found++
		}
		if want.At < 0 && len(list) > 2*window {
			none++
		}
	}
	if found < 1000 || none < 400 {
		t.Errorf("%d bursts, %d without: too few to tell", found, none)
	}
}
