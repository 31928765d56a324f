package tests

import (
	"math"
	"math/big"
	"math/rand"
	"slices"
	"testing"

	"loop.example/g00068/impl"
)

func parcel(water int64, grams int64, born int64) impl.Parcel {
	return impl.Parcel{Water: water, Grams: grams, Born: born}
}

// tube has as much room as its parcels fill, the one that came last ahead.
func tube(list ...impl.Parcel) impl.Tube {
	filled := impl.Tube{List: list}
	for _, p := range list {
		filled.Room += p.Water
	}
	return filled
}

// mainTube holds 6 that came on day 5, and at its end 4 that came on day 1.
func mainTube() impl.Tube {
	return tube(parcel(6, 60, 5), parcel(4, 8, 1))
}

func manyParcels(count int, each impl.Parcel) []impl.Parcel {
	return slices.Repeat([]impl.Parcel{each}, count)
}

// fullTube has as many parcels as may be: the last one of 2, all others of 1.
func fullTube() impl.Tube {
	return tube(append(manyParcels(impl.MaxParcels-1, parcel(1, 3, 4)), parcel(2, 5, 3))...)
}

func sameTube(t *testing.T, what string, got impl.Tube, want impl.Tube) {
	t.Helper()
	if got.Room != want.Room || !slices.Equal(got.List, want.List) {
		t.Errorf("%s: got %+v, want %+v", what, got, want)
	}
}

func sameTubeOut(t *testing.T, what string, got impl.TubeOut, want impl.TubeOut) {
	t.Helper()
	sameTube(t, what+", the tube", got.Tube, want.Tube)
	if !slices.Equal(got.Out, want.Out) || got.Code != want.Code {
		t.Errorf("%s: got %+v, want %+v", what, got, want)
	}
}

func tubeFault(code int64) impl.TubeOut {
	return impl.TubeOut{Code: code}
}

// roomy is the same list with memory behind it, which is no one else's to write to.
func roomy(list []impl.Parcel) []impl.Parcel {
	if list == nil {
		return nil
	}
	long := append(slices.Clone(list), parcel(-7, -7, -7), parcel(-7, -7, -7))
	return long[:len(list)]
}

// untouched tells whether a list that was made by roomy is still what it was, behind its end too.
func untouched(list []impl.Parcel, before []impl.Parcel) bool {
	if list == nil {
		return true
	}
	behind := []impl.Parcel{parcel(-7, -7, -7), parcel(-7, -7, -7)}
	return slices.Equal(list[:len(list)+2], slices.Concat(before, behind))
}

func samePush(t *testing.T, what string, into impl.Tube, p impl.Parcel, want impl.TubeOut) {
	t.Helper()
	given := impl.Tube{Room: into.Room, List: roomy(into.List)}
	sameTubeOut(t, "TubePush, "+what, impl.TubePush(given, p), want)
	if !untouched(given.List, into.List) {
		t.Errorf("TubePush, %s: the tube was changed", what)
	}
}

func sameDecay(t *testing.T, what string, of impl.Tube, mill int64, want impl.Tube) {
	t.Helper()
	given := impl.Tube{Room: of.Room, List: roomy(of.List)}
	sameTube(t, "TubeDecay, "+what, impl.TubeDecay(given, mill), want)
	if !untouched(given.List, of.List) {
		t.Errorf("TubeDecay, %s: the tube was changed", what)
	}
}

func sameAge(t *testing.T, what string, of impl.Tube, now int64, want int64) {
	t.Helper()
	given := impl.Tube{Room: of.Room, List: roomy(of.List)}
	if got := impl.TubeAge(given, now); got != want {
		t.Errorf("TubeAge, %s: got %d, want %d", what, got, want)
	}
	if !untouched(given.List, of.List) {
		t.Errorf("TubeAge, %s: the tube was changed", what)
	}
}

func sameMixed(t *testing.T, what string, list []impl.Parcel, want impl.Parcel) {
	t.Helper()
	given := roomy(list)
	if got := impl.MixParcels(given); got != want {
		t.Errorf("MixParcels, %s: got %+v, want %+v", what, got, want)
	}
	if !untouched(given, list) {
		t.Errorf("MixParcels, %s: what was handed in was changed", what)
	}
}

func rightParcels() []impl.Parcel {
	return []impl.Parcel{
		parcel(1, 0, 0), parcel(impl.MaxFlow, 0, 0), parcel(1, impl.MaxGrams, 0), parcel(1, 0, impl.MaxDays),
		parcel(impl.MaxFlow, impl.MaxGrams, impl.MaxDays), parcel(6, 60, 5),
	}
}

func wrongParcels() map[string]impl.Parcel {
	wrong := map[string]impl.Parcel{"none": {}}
	for what, n := range beside(1, impl.MaxFlow) {
		wrong["water "+what] = parcel(n, 8, 1)
	}
	for what, n := range beside(0, impl.MaxGrams) {
		wrong["grams "+what] = parcel(4, n, 1)
	}
	for what, n := range beside(0, impl.MaxDays) {
		wrong["born "+what] = parcel(4, 8, n)
	}
	return wrong
}

func rightTubes() map[string]impl.Tube {
	right := map[string]impl.Tube{
		"two parcels":          mainTube(),
		"two that are alike":   tube(parcel(4, 8, 1), parcel(4, 8, 1)),
		"older ones ahead":     tube(parcel(4, 8, 1), parcel(6, 60, 5)),
		"MaxParcels":           fullTube(),
		"MaxParcels, as great": tube(manyParcels(impl.MaxParcels, parcel(impl.MaxFlow, impl.MaxGrams, impl.MaxDays))...),
	}
	for i, p := range rightParcels() {
		right["one alone, "+decimal(int64(i))] = tube(p)
	}
	return right
}

func wrongTubes() map[string]impl.Tube {
	wrong := map[string]impl.Tube{
		"none":                 {},
		"an empty list":        {List: []impl.Parcel{}},
		"room for nothing":     {Room: 10},
		"parcels that balance": tube(parcel(11, 1, 1), parcel(-1, 1, 1)),
		"a sum that wraps":     tube(manyParcels(4, parcel(math.MinInt64/2, 1, 1))...),
	}
	for _, count := range []int{impl.MaxParcels + 1, impl.MaxList, impl.MaxList + 1} {
		wrong["parcels: "+decimal(int64(count))] = tube(manyParcels(count, parcel(1, 1, 1))...)
	}
	for _, room := range []int64{-10, 0, 9, 11, math.MinInt64, math.MaxInt64} {
		wrong["room "+decimal(room)] = impl.Tube{Room: room, List: mainTube().List}
	}
	good := parcel(2, 2, 2)
	for what, bad := range wrongParcels() {
		wrong[what+", alone"] = tube(bad)
		wrong[what+", first"] = tube(bad, good, good)
		wrong[what+", between"] = tube(good, bad, good)
		wrong[what+", last"] = tube(good, good, bad)
	}
	return wrong
}

func TestTubeRight(t *testing.T) {
	for what, right := range rightTubes() {
		given := impl.Tube{Room: right.Room, List: roomy(right.List)}
		if !impl.TubeRight(given) || !untouched(given.List, right.List) {
			t.Errorf("TubeRight, %s: got false, or the tube was changed", what)
		}
	}
	for what, wrong := range wrongTubes() {
		if impl.TubeRight(wrong) {
			t.Errorf("TubeRight, %s: got true", what)
		}
	}
}

func TestTubePushByHand(t *testing.T) {
	into := mainTube()
	samePush(t, "less than the last one", into, parcel(1, 1, 2), impl.TubeOut{
		Tube: tube(parcel(1, 1, 2), parcel(6, 60, 5), parcel(3, 6, 1)),
		Out:  []impl.Parcel{parcel(1, 2, 1)},
	})
	samePush(t, "as much as the last one", into, parcel(4, 0, 9), impl.TubeOut{
		Tube: tube(parcel(4, 0, 9), parcel(6, 60, 5)),
		Out:  []impl.Parcel{parcel(4, 8, 1)},
	})
	samePush(t, "more than the last one", into, parcel(5, 10, 9), impl.TubeOut{
		Tube: tube(parcel(5, 10, 9), parcel(5, 50, 5)),
		Out:  []impl.Parcel{parcel(4, 8, 1), parcel(1, 10, 5)},
	})
	samePush(t, "as much as there is", into, parcel(10, 5, 7), impl.TubeOut{
		Tube: tube(parcel(10, 5, 7)),
		Out:  []impl.Parcel{parcel(4, 8, 1), parcel(6, 60, 5)},
	})
	// 7 times 5 / 15 are 2: so much goes out again with what found no room.
	samePush(t, "more than there is room for", into, parcel(15, 7, 3), impl.TubeOut{
		Tube: tube(parcel(10, 5, 3)),
		Out:  []impl.Parcel{parcel(4, 8, 1), parcel(6, 60, 5), parcel(5, 2, 3)},
	})
	samePush(t, "an older one", into, parcel(4, 0, 0), impl.TubeOut{
		Tube: tube(parcel(4, 0, 0), parcel(6, 60, 5)),
		Out:  []impl.Parcel{parcel(4, 8, 1)},
	})
}

func TestTubePushGramsByHand(t *testing.T) {
	// 10 times 2 / 7 are 2 and a rest.
	samePush(t, "rounded down", tube(parcel(7, 10, 0)), parcel(2, 1, 1), impl.TubeOut{
		Tube: tube(parcel(2, 1, 1), parcel(5, 8, 0)),
		Out:  []impl.Parcel{parcel(2, 2, 0)},
	})
	samePush(t, "too few for the part", tube(parcel(3, 1, 0)), parcel(2, 0, 1), impl.TubeOut{
		Tube: tube(parcel(2, 0, 1), parcel(1, 1, 0)),
		Out:  []impl.Parcel{parcel(2, 0, 0)},
	})
	samePush(t, "none", tube(parcel(3, 0, 4)), parcel(2, 0, 9), impl.TubeOut{
		Tube: tube(parcel(2, 0, 9), parcel(1, 0, 4)),
		Out:  []impl.Parcel{parcel(2, 0, 4)},
	})
	most := parcel(impl.MaxFlow, impl.MaxGrams, impl.MaxDays)
	samePush(t, "as great as may be", tube(most), parcel(impl.MaxFlow-1, impl.MaxGrams, 0), impl.TubeOut{
		Tube: tube(parcel(impl.MaxFlow-1, impl.MaxGrams, 0), parcel(1, 1000, impl.MaxDays)),
		Out:  []impl.Parcel{parcel(impl.MaxFlow-1, 999999000, impl.MaxDays)},
	})
	samePush(t, "little room for much", tube(parcel(1, 3, 3)), most, impl.TubeOut{
		Tube: tube(parcel(1, 1000, impl.MaxDays)),
		Out:  []impl.Parcel{parcel(1, 3, 3), parcel(impl.MaxFlow-1, 999999000, impl.MaxDays)},
	})
}

func TestTubePushForm(t *testing.T) {
	for what, wrong := range wrongTubes() {
		samePush(t, what, wrong, parcel(1, 1, 1), tubeFault(impl.ErrForm))
		samePush(t, what+", and a parcel that is wrong", wrong, impl.Parcel{}, tubeFault(impl.ErrForm))
	}
	for what, wrong := range wrongParcels() {
		samePush(t, what, mainTube(), wrong, tubeFault(impl.ErrForm))
		samePush(t, what+", of a full tube", fullTube(), wrong, tubeFault(impl.ErrForm))
	}
	for what, right := range rightTubes() {
		for _, p := range rightParcels() {
			if got := impl.TubePush(right, p); got.Code == impl.ErrForm {
				t.Errorf("TubePush of %+v, %s: it is refused", p, what)
			}
		}
	}
}

// A tube of MaxParcels takes another one where at least one goes whole.
func TestTubePushOver(t *testing.T) {
	full := fullTube()
	samePush(t, "a part goes", full, parcel(1, 1, 9), tubeFault(impl.ErrOver))
	samePush(t, "one goes", full, parcel(2, 1, 9), impl.TubeOut{
		Tube: tube(append([]impl.Parcel{parcel(2, 1, 9)}, full.List[:impl.MaxParcels-1]...)...),
		Out:  []impl.Parcel{parcel(2, 5, 3)},
	})
	heavy := tube(append(manyParcels(impl.MaxParcels-2, parcel(1, 3, 4)), parcel(2, 9, 3), parcel(2, 5, 3))...)
	samePush(t, "one and a part go", heavy, parcel(3, 1, 9), impl.TubeOut{
		Tube: tube(slices.Concat([]impl.Parcel{parcel(3, 1, 9)}, heavy.List[:impl.MaxParcels-2], []impl.Parcel{parcel(1, 5, 3)})...),
		Out:  []impl.Parcel{parcel(2, 5, 3), parcel(1, 4, 3)},
	})
	almost := tube(append(manyParcels(impl.MaxParcels-2, parcel(1, 3, 4)), parcel(2, 5, 3))...)
	samePush(t, "room for one more", almost, parcel(1, 1, 9), impl.TubeOut{
		Tube: tube(slices.Concat([]impl.Parcel{parcel(1, 1, 9)}, almost.List[:impl.MaxParcels-2], []impl.Parcel{parcel(1, 3, 3)})...),
		Out:  []impl.Parcel{parcel(1, 2, 3)},
	})
	samePush(t, "all go", full, parcel(impl.MaxParcels+1, 7, 9), impl.TubeOut{
		Tube: tube(parcel(impl.MaxParcels+1, 7, 9)),
		Out:  append([]impl.Parcel{parcel(2, 5, 3)}, full.List[:impl.MaxParcels-1]...),
	})
}

func TestTubeDecayByHand(t *testing.T) {
	sameDecay(t, "half", mainTube(), 500, tube(parcel(6, 30, 5), parcel(4, 4, 1)))
	sameDecay(t, "nothing", mainTube(), 0, mainTube())
	sameDecay(t, "all", mainTube(), 1000, tube(parcel(6, 0, 5), parcel(4, 0, 1)))
	// What is gone is rounded down, not what is left.
	sameDecay(t, "half of odd grams", tube(parcel(6, 7, 5), parcel(4, 1, 1)), 500, tube(parcel(6, 4, 5), parcel(4, 1, 1)))
	sameDecay(t, "almost all of one", tube(parcel(1, 1, 0)), 999, tube(parcel(1, 1, 0)))
	sameDecay(t, "a third and a bit", tube(parcel(1, 3, 0)), 334, tube(parcel(1, 2, 0)))
	sameDecay(t, "no grams", tube(parcel(1, 0, 0)), 500, tube(parcel(1, 0, 0)))
	great := tube(manyParcels(impl.MaxParcels, parcel(impl.MaxFlow, impl.MaxGrams, impl.MaxDays))...)
	left := tube(manyParcels(impl.MaxParcels, parcel(impl.MaxFlow, 1000000, impl.MaxDays))...)
	sameDecay(t, "as great as may be", great, 999, left)
}

func TestTubeDecayForm(t *testing.T) {
	for what, mill := range beside(0, 1000) {
		sameDecay(t, "a mill "+what, mainTube(), mill, impl.Tube{})
	}
	for what, wrong := range wrongTubes() {
		for _, mill := range []int64{0, 500, 1000, 1001} {
			sameDecay(t, what, wrong, mill, impl.Tube{})
		}
	}
}

func TestTubeAgeByHand(t *testing.T) {
	// 6 times 6 and 4 times 10 are 76.
	sameAge(t, "rounded down", mainTube(), 11, 7)
	sameAge(t, "as the last one comes", mainTube(), 5, 1)
	sameAge(t, "ahead of the last one", mainTube(), 4, -1)
	sameAge(t, "older ones ahead", tube(parcel(4, 8, 1), parcel(6, 60, 5)), 11, 7)
	sameAge(t, "the first one is too young", tube(parcel(1, 1, 6), parcel(1, 1, 5), parcel(1, 1, 5)), 5, -1)
	sameAge(t, "the second one is too young", tube(parcel(1, 1, 5), parcel(1, 1, 6), parcel(1, 1, 5)), 5, -1)
	sameAge(t, "the last one is too young", tube(parcel(1, 1, 5), parcel(1, 1, 5), parcel(1, 1, 6)), 5, -1)
	sameAge(t, "on day 0", tube(parcel(3, 1, 0)), 0, 0)
	sameAge(t, "below nought", tube(parcel(3, 1, 0)), -1, -1)
	sameAge(t, "the last day", tube(parcel(3, 1, impl.MaxDays)), impl.MaxDays, 0)
	sameAge(t, "beyond the last day", tube(parcel(3, 1, impl.MaxDays)), impl.MaxDays+1, -1)
	sameAge(t, "from the first day to the last", tube(parcel(3, 1, 0)), impl.MaxDays, impl.MaxDays)
	great := tube(manyParcels(impl.MaxParcels, parcel(impl.MaxFlow, impl.MaxGrams, 0))...)
	sameAge(t, "as great as may be", great, impl.MaxDays, impl.MaxDays)
	great.List[0].Born = impl.MaxDays
	// 59 of 60 parts of 100000 are 98333 and a rest.
	sameAge(t, "as great but for one", great, impl.MaxDays, 98333)
}

func TestTubeAgeForm(t *testing.T) {
	for what, wrong := range wrongTubes() {
		for _, now := range []int64{0, 11, impl.MaxDays, impl.MaxDays + 1} {
			sameAge(t, what, wrong, now, -1)
		}
	}
	for what, now := range beside(0, impl.MaxDays) {
		sameAge(t, "now is "+what, tube(parcel(3, 1, 0)), now, -1)
	}
}

func TestMixParcelsByHand(t *testing.T) {
	for _, p := range rightParcels() {
		sameMixed(t, "one alone", []impl.Parcel{p}, p)
	}
	sameMixed(t, "two", mainTube().List, parcel(10, 68, 1))
	sameMixed(t, "three", []impl.Parcel{parcel(1, 10, 7), parcel(2, 20, 3), parcel(4, 40, 9)}, parcel(7, 70, 3))
	sameMixed(t, "the first is the oldest", []impl.Parcel{parcel(1, 10, 0), parcel(2, 20, 3)}, parcel(3, 30, 0))
	sameMixed(t, "one twice", manyParcels(2, parcel(3, 4, 5)), parcel(6, 8, 5))
	sameMixed(t, "MaxFlow", []impl.Parcel{parcel(impl.MaxFlow-1, 0, 1), parcel(1, 0, 1)}, parcel(impl.MaxFlow, 0, 1))
	sameMixed(t, "above MaxFlow", []impl.Parcel{parcel(impl.MaxFlow, 0, 1), parcel(1, 0, 1)}, impl.Parcel{})
	sameMixed(t, "MaxGrams", []impl.Parcel{parcel(1, impl.MaxGrams-1, 1), parcel(1, 1, 1)}, parcel(2, impl.MaxGrams, 1))
	sameMixed(t, "above MaxGrams", []impl.Parcel{parcel(1, impl.MaxGrams, 1), parcel(1, 1, 1)}, impl.Parcel{})
	sameMixed(t, "the last day", manyParcels(3, parcel(1, 1, impl.MaxDays)), parcel(3, 3, impl.MaxDays))
}

func TestMixParcelsForm(t *testing.T) {
	sameMixed(t, "none", nil, impl.Parcel{})
	sameMixed(t, "an empty list", []impl.Parcel{}, impl.Parcel{})
	good := parcel(2, 2, 2)
	for what, bad := range wrongParcels() {
		sameMixed(t, what+", alone", []impl.Parcel{bad}, impl.Parcel{})
		sameMixed(t, what+", first", []impl.Parcel{bad, good, good}, impl.Parcel{})
		sameMixed(t, what+", between", []impl.Parcel{good, bad, good}, impl.Parcel{})
		sameMixed(t, what+", last", []impl.Parcel{good, good, bad}, impl.Parcel{})
	}
}

func TestMixParcelsSize(t *testing.T) {
	more := impl.MaxParcels + 1
	sameMixed(t, "more than a tube has", manyParcels(more, parcel(1, 2, 3)), parcel(int64(more), 2*int64(more), 3))
	sameMixed(t, "MaxList", manyParcels(impl.MaxList, parcel(2500, 2500000, 3)), parcel(impl.MaxFlow, impl.MaxGrams, 3))
	sameMixed(t, "too many", manyParcels(impl.MaxList+1, parcel(1, 2, 3)), impl.Parcel{})
	sameMixed(t, "MaxList, as great as may be", manyParcels(impl.MaxList, parcel(impl.MaxFlow, impl.MaxGrams, 3)), impl.Parcel{})
}

func spoilParcels(list []impl.Parcel) {
	for i := range list {
		list[i] = parcel(-9, -9, -9)
	}
	_ = append(list, parcel(-9, -9, -9))
}

// ownParcels asks that no list of an answer shows what is written to another one, nor a later answer.
func ownParcels(t *testing.T, what string, call func() impl.TubeOut) {
	t.Helper()
	want, got := call(), call()
	spoilParcels(got.Out)
	sameTube(t, what+", behind Out", got.Tube, want.Tube)
	got = call()
	spoilParcels(got.Tube.List)
	if !slices.Equal(got.Out, want.Out) {
		t.Errorf("%s: both lists share memory", what)
	}
	spoilParcels(got.Out)
	sameTubeOut(t, what+", once more", call(), want)
}

func TestTubesNewMemory(t *testing.T) {
	into, list := mainTube(), []impl.Parcel{parcel(3, 1, 1), parcel(4, 2, 2)}
	for _, water := range []int64{1, 4, 5, 10, 15} {
		ownParcels(t, "TubePush", func() impl.TubeOut { return impl.TubePush(into, parcel(water, 7, 9)) })
	}
	for _, mill := range []int64{0, 500, 1000} {
		ownParcels(t, "TubeDecay", func() impl.TubeOut { return impl.TubeOut{Tube: impl.TubeDecay(into, mill)} })
		for count := range len(list) + 1 {
			ownParcels(t, "TubeRun", func() impl.TubeOut { return impl.TubeRun(into, list[:count], mill) })
		}
	}
	sameTube(t, "what was handed in", into, mainTube())
	if !slices.Equal(list, []impl.Parcel{parcel(3, 1, 1), parcel(4, 2, 2)}) {
		t.Errorf("what was handed in is now %+v", list)
	}
}

// plainPush lays all the water along a line, the oldest first: what lies ahead of as much as
// the parcel has goes out.
func plainPush(into impl.Tube, p impl.Parcel) impl.TubeOut {
	out := impl.TubeOut{Tube: impl.Tube{Room: into.Room}}
	from, line := int64(0), append([]impl.Parcel{p}, into.List...)
	for i := len(line) - 1; i >= 0; i-- {
		q := line[i]
		goes := max(0, min(q.Water, p.Water-from))
		from += q.Water
		part := parcel(goes, share(q.Grams, goes, q.Water), q.Born)
		if goes > 0 {
			out.Out = append(out.Out, part)
		}
		if goes < q.Water {
			out.Tube.List = append([]impl.Parcel{parcel(q.Water-goes, q.Grams-part.Grams, q.Born)}, out.Tube.List...)
		}
	}
	if len(out.Tube.List) > impl.MaxParcels {
		return tubeFault(impl.ErrOver)
	}
	return out
}

func plainDecay(of impl.Tube, mill int64) impl.Tube {
	left := impl.Tube{Room: of.Room}
	for _, p := range of.List {
		left.List = append(left.List, parcel(p.Water, p.Grams-share(p.Grams, mill, 1000), p.Born))
	}
	return left
}

func plainAge(of impl.Tube, now int64) int64 {
	sum := new(big.Int)
	for _, p := range of.List {
		if p.Born > now {
			return -1
		}
		sum.Add(sum, new(big.Int).Mul(big.NewInt(p.Water), big.NewInt(now-p.Born)))
	}
	return sum.Div(sum, big.NewInt(of.Room)).Int64()
}

func anyParcel(random *rand.Rand, water int64) impl.Parcel {
	return parcel(1+anyNumber(random, water-1), anyNumber(random, impl.MaxGrams), anyNumber(random, impl.MaxDays))
}

func anyParcels(random *rand.Rand, count int, water int64) []impl.Parcel {
	list := make([]impl.Parcel, count)
	for i := range list {
		list[i] = anyParcel(random, water)
	}
	return list
}

func anyTube(random *rand.Rand, water int64) impl.Tube {
	count := 1 + random.Intn(6)
	switch random.Intn(6) {
	case 0:
		count = impl.MaxParcels
	case 1:
		count = 1 + random.Intn(impl.MaxParcels)
	}
	return tube(anyParcels(random, count, water)...)
}

func anyWater(random *rand.Rand) int64 {
	return []int64{1, 3, 50, impl.MaxFlow}[random.Intn(4)]
}

func TestTubePushAny(t *testing.T) {
	random := rand.New(rand.NewSource(101))
	seen := map[string]int{}
	for range 5000 {
		into, p := anyTube(random, anyWater(random)), anyParcel(random, anyWater(random))
		want := plainPush(into, p)
		samePush(t, "any", into, p, want)
		if t.Failed() {
			t.Fatalf("%+v into %+v", p, into)
		}
		kind := decimal(want.Code) + ": "
		switch last := len(into.List) - 1; {
		case want.Code != impl.OK:
		case p.Water > into.Room:
			kind += "beyond the room"
		case p.Water == into.Room:
			kind += "the whole room"
		case p.Water < into.List[last].Water:
			kind += "a part"
		default:
			kind += "some"
		}
		seen[kind]++
	}
	for _, kind := range []string{"0: beyond the room", "0: the whole room", "0: a part", "0: some", "5: "} {
		if seen[kind] < 100 {
			t.Errorf("%s: seen %d times, too few to tell: %v", kind, seen[kind], seen)
		}
	}
}

func TestTubesAny(t *testing.T) {
	random := rand.New(rand.NewSource(102))
	young := 0
	for range 3000 {
		of := anyTube(random, anyWater(random))
		mill, now := anyNumber(random, 1000), anyNumber(random, impl.MaxDays)
		sameDecay(t, "any", of, mill, plainDecay(of, mill))
		sameAge(t, "any", of, now, plainAge(of, now))
		if plainAge(of, now) == -1 {
			young++
		}
		sum := parcel(of.Room, 0, impl.MaxDays)
		for _, p := range of.List {
			sum.Grams, sum.Born = sum.Grams+p.Grams, min(sum.Born, p.Born)
		}
		if sum.Water > impl.MaxFlow || sum.Grams > impl.MaxGrams {
			sum = impl.Parcel{}
		}
		sameMixed(t, "any", of.List, sum)
		if t.Failed() {
			t.Fatalf("%+v by %d at %d", of, mill, now)
		}
	}
	if young < 500 || young > 2500 {
		t.Errorf("%d are too young: too few, or too many, to tell", young)
	}
}
