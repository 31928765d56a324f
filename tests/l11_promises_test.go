package tests

import (
	"math"
	"math/rand"
	"slices"
	"testing"

	"loop.example/g00068/impl"
)

func noneMissing(list []float64) bool {
	return !slices.ContainsFunc(list, func(x float64) bool { return !(math.Abs(x) <= edge) })
}

// fours are the sums of all reads one behind the other that may be a night line, by where they begin.
func fours(list []float64) map[int64]float64 {
	sums := map[int64]float64{}
	for i := 0; i+impl.NightReads <= len(list); i++ {
		if four := list[i : i+impl.NightReads]; noneMissing(four) {
			sums[int64(i)] = impl.SumFloats(four)
		}
	}
	return sums
}

func TestPromise22NightLineIsTheLeast(t *testing.T) {
	random := rand.New(rand.NewSource(111))
	found, none := 0, 0
	for range 3000 {
		list := anyReads(random, random.Intn(25))
		at, line, sums := impl.NightAt(list), impl.NightLine(list), fours(list)
		if len(sums) == 0 {
			sameNight(t, "no four", list, -1, 0)
			none++
			continue
		}
		least, there := sums[at]
		if !there {
			t.Fatalf("%v: a night line at %d, where there is none", list, at)
		}
		sameBits(t, "the night line", line, least/impl.NightReads)
		for i, sum := range sums {
			if sum < least || sum == least && i < at || sum/impl.NightReads < line {
				t.Fatalf("%v: a night line of %v at %d, but %v at %d", list, line, at, sum/impl.NightReads, i)
			}
		}
		found++
	}
	if found < 1000 || none < 200 {
		t.Errorf("%d lines, %d without: too few to tell", found, none)
	}
}

func TestPromise22BurstsDoNotHangOnThoseBehind(t *testing.T) {
	random := rand.New(rand.NewSource(112))
	found := 0
	for range 3000 {
		list := anyReads(random, random.Intn(30))
		window, many := 2+random.Int63n(6), random.Float64()*5
		first := impl.BurstAt(list, window, many)
		if first.At < 0 {
			for i := range list {
				sameBurst(t, "fewer reads without one", list[:i], window, many, noBurst())
			}
			continue
		}
		for range 5 {
			behind := anyReads(random, random.Intn(10))
			sameBurst(t, "other reads behind it", slices.Concat(list[:first.At+1], behind), window, many, first)
		}
		sameBurst(t, "no reads behind it", list[:first.At+1], window, many, first)
		sameBurst(t, "without it", list[:first.At], window, many, noBurst())
		found++
	}
	if found < 1000 {
		t.Errorf("%d bursts: too few to tell", found)
	}
}

func TestPromise23DistrictBookAddsUp(t *testing.T) {
	random := rand.New(rand.NewSource(113))
	for range 3000 {
		d := anyDistrict(random, random.Intn(20))
		whole := impl.DistrictBook(d)
		lost, worst, most := int64(0), int64(-1), int64(math.MinInt64)
		for i := range d.Ins {
			each := impl.DistrictBook(district(d.Ins[i:i+1], d.Outs[i:i+1], d.Used[i:i+1]))
			if each != lostWorst(d.Ins[i]-d.Outs[i]-d.Used[i], 0) {
				t.Fatalf("%+v: %+v at place %d", d, each, i)
			}
			lost += each.Lost
			if each.Lost > most {
				worst, most = int64(i), each.Lost
			}
		}
		if whole != lostWorst(lost, worst) || lost != sumOf(d.Ins)-sumOf(d.Outs)-sumOf(d.Used) {
			t.Fatalf("%+v: got %+v, but %d are lost, the most of them at %d", d, whole, lost, worst)
		}
	}
}

func TestPromise23PartsOfADistrictAddUp(t *testing.T) {
	random := rand.New(rand.NewSource(114))
	for range 1000 {
		one, other := anyDistrict(random, random.Intn(20)), anyDistrict(random, random.Intn(20))
		both := district(slices.Concat(one.Ins, other.Ins), slices.Concat(one.Outs, other.Outs), slices.Concat(one.Used, other.Used))
		if got, want := impl.DistrictBook(both).Lost, impl.DistrictBook(one).Lost+impl.DistrictBook(other).Lost; got != want {
			t.Fatalf("%+v and %+v: %d are lost together, %d by parts", one, other, got, want)
		}
	}
}
