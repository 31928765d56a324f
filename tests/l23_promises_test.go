package tests

import (
	"math/rand"
	"slices"
	"testing"

	"loop.example/g00068/impl"
)

// TestPromise38Within: what comes out of a pack is nowhere further from its value than the band.
func TestPromise38Within(t *testing.T) {
	random := rand.New(rand.NewSource(234))
	reached := 0
	for range 3000 {
		values, band := anyValues(random), packBand(random)
		list := impl.HistoryPack(values, band)
		worst := impl.HistoryWorst(values, list)
		if worst < 0 || worst > band {
			t.Fatalf("HistoryWorst of %v by %d: got %d", values, band, worst)
		}
		if worst == band {
			reached++
		}
		unpacked := impl.HistoryUnpack(list, int64(len(values)))
		if len(unpacked) != len(values) {
			t.Fatalf("HistoryUnpack of %v: %d values of %d", list, len(unpacked), len(values))
		}
		for at, value := range values {
			if plainAbs(value-unpacked[at]) > band || impl.HistoryAt(list, int64(at)) != unpacked[at] {
				t.Fatalf("%v by %d: got %v", values, band, unpacked)
			}
		}
	}
	if reached < 500 {
		t.Errorf("%d reach their bands: too few to tell", reached)
	}
}

// TestPromise38NoBand: without a band each value comes back.
func TestPromise38NoBand(t *testing.T) {
	random := rand.New(rand.NewSource(235))
	for range 2000 {
		values := anyValues(random)
		list := impl.HistoryPack(values, 0)
		samePlaces(t, "without a band", impl.HistoryUnpack(list, int64(len(values))), values)
		if worst := impl.HistoryWorst(values, list); worst != 0 {
			t.Fatalf("HistoryWorst of %v: got %d", values, worst)
		}
	}
}

// TestPromise38NoPointTooMany: each Point but the first one is where the one ahead of it is too far away.
func TestPromise38NoPointTooMany(t *testing.T) {
	random := rand.New(rand.NewSource(236))
	for range 2000 {
		values, band := anyValues(random), packBand(random)
		list := impl.HistoryPack(values, band)
		for place := 1; place < len(list); place++ {
			fewer := slices.Delete(slices.Clone(list), place, place+1)
			if worst := impl.HistoryWorst(values, fewer); worst <= band {
				t.Fatalf("%v by %d: the Point at %d is not needed", values, band, list[place].At)
			}
		}
	}
}

// TestPromise38Bytes: each history comes back from its bytes, and no two have the same ones.
func TestPromise38Bytes(t *testing.T) {
	random := rand.New(rand.NewSource(237))
	texts := map[string][]impl.Point{}
	for range 4000 {
		list := anyHistory(random)
		if random.Intn(2) == 0 {
			list = impl.HistoryPack(anyValues(random), packBand(random))
		}
		text := impl.PointsText(list)
		if other, known := texts[text]; known && !slices.Equal(other, list) {
			t.Fatalf("%v and %v have one text", list, other)
		}
		texts[text] = list
		sameBothWays(t, "any", list, text)
		samePointsText(t, "any", list, plainPointsText(list))
	}
	if len(texts) < 2000 {
		t.Errorf("%d texts: too few to tell", len(texts))
	}
}

// TestPromise38CutOff: of a text that is cut off the Points come back that are whole, or none.
func TestPromise38CutOff(t *testing.T) {
	random := rand.New(rand.NewSource(238))
	for range 60 {
		list := anyHistory(random)
		text := impl.PointsText(list)
		ends := map[int]int{}
		for count := range len(list) + 1 {
			ends[len(impl.PointsText(list[:count]))] = count
		}
		for size := range len(text) + 1 {
			if count, whole := ends[size]; whole {
				samePointsRead(t, "cut behind a Point", text[:size], impl.PointsOut{List: list[:count]})
			} else {
				sameNoPoints(t, "cut within a Point", text[:size])
			}
		}
	}
}
