package tests

import (
	"math/rand"
	"slices"
	"testing"

	"loop.example/g00068/impl"
)

func copiedWays(ways [][]int64) [][]int64 {
	list := slices.Clone(ways)
	for i, way := range ways {
		list[i] = roomyPlaces(way)
	}
	return list
}

func sameWays(t *testing.T, what string, p impl.Plan, place int64, ways [][]int64, want bool) {
	t.Helper()
	given := copiedWays(ways)
	watched(t, "WaysRight, "+what, p, func(p impl.Plan) {
		if got := impl.WaysRight(p, place, given); got != want {
			t.Errorf("WaysRight of place %d, %s: got %v, want %v", place, what, got, want)
		}
	})
	for i, way := range ways {
		if len(given) != len(ways) || !keptPlaces(given[i], way) {
			t.Errorf("WaysRight, %s: the ways were changed", what)
		}
	}
}

func oneWay(rows ...int64) [][]int64 {
	return [][]int64{rows}
}

func TestWaysByHand(t *testing.T) {
	p := quarter()
	sameWays(t, "no ways", p, 3, nil, true)
	sameWays(t, "no ways, an empty list", p, 6, [][]int64{}, true)
	sameWays(t, "one Row", p, 1, oneWay(0), true)
	sameWays(t, "one Row against how it is told", p, 2, oneWay(2), true)
	sameWays(t, "one Row back to the Source", p, 0, oneWay(0), false)
	sameWays(t, "one Row elsewhere", p, 2, oneWay(0), false)
	sameWays(t, "one Row from elsewhere", p, 2, oneWay(1), false)
	sameWays(t, "two Rows", p, 2, oneWay(0, 1), true)
	sameWays(t, "two Rows from their end", p, 2, oneWay(1, 0), false)
	sameWays(t, "two Rows that do not touch", p, 4, oneWay(0, 4), false)
	sameWays(t, "two Rows from one place", p, 2, oneWay(0, 2), false)
	sameWays(t, "both ways about the ring", p, 2, [][]int64{{2}, {0, 1}}, true)
	sameWays(t, "about the ring", p, 0, oneWay(0, 1, 2), true)
	sameWays(t, "through the ring and on", p, 5, [][]int64{{0, 1, 3, 4, 6}, {2, 3, 5, 6}}, true)
	sameWays(t, "too short by a Row", p, 5, oneWay(2, 3, 5), false)
	sameWays(t, "too long by a Row", p, 3, oneWay(2, 3, 5), false)
	sameWays(t, "without its first Row", p, 3, oneWay(3), false)
	sameWays(t, "without a Row in the midst", p, 4, oneWay(2, 4), false)
	sameWays(t, "one right, one wrong", p, 2, [][]int64{{2}, {0}}, false)
	sameWays(t, "one wrong, one right", p, 2, [][]int64{{0}, {2}}, false)
	sameWays(t, "beyond the place and back", p, 3, oneWay(2, 3, 3, 3), true)
	sameWays(t, "over the place and away", p, 3, oneWay(2, 3, 3), false)
}

func TestWaysOfNoRows(t *testing.T) {
	p := quarter()
	sameWays(t, "the Source", p, 0, oneWay(), true)
	sameWays(t, "the Source, an empty way", p, 0, [][]int64{{}}, true)
	sameWays(t, "the Source, many times", p, 0, slices.Repeat(oneWay(), impl.MaxRows), true)
	sameWays(t, "the Source, and about the ring", p, 0, [][]int64{{}, {0, 1, 2}, nil}, true)
	sameWays(t, "no Source", p, 1, oneWay(), false)
	sameWays(t, "no Source, behind a right way", p, 1, [][]int64{{0}, {}}, false)
	sameWays(t, "no Source anywhere", changedPlan(p, func(p *impl.Plan) { p.Sources = nil }), 0, oneWay(), false)
	sameWays(t, "no Source at the beginning", changedPlan(p, func(p *impl.Plan) { p.Sources = nil }), 1, oneWay(0), false)
}

func TestWaysFromAnySource(t *testing.T) {
	p := changedPlan(quarter(), func(p *impl.Plan) { p.Sources = []int64{0, 1, 5} })
	sameWays(t, "from the first end of the first Row", p, 2, oneWay(0, 1), true)
	sameWays(t, "from the other end of the first Row", p, 2, oneWay(0, 2), true)
	sameWays(t, "from each end of one Row", p, 2, [][]int64{{1}, {2}}, true)
	sameWays(t, "from one Source to another", p, 1, oneWay(0), true)
	sameWays(t, "from one Source to another, back", p, 0, oneWay(0), true)
	sameWays(t, "from the last Source", p, 3, [][]int64{{6, 4}, {6, 5}, {1, 3}, {2, 3}}, true)
	sameWays(t, "through a Source", p, 3, oneWay(0, 1, 3), true)
}

func TestWaysWithRowsTwice(t *testing.T) {
	p := quarter()
	sameWays(t, "a good valve in two ways", p, 1, [][]int64{{0}, {0}}, false)
	sameWays(t, "a good valve in the last of three ways", p, 2, [][]int64{{2}, {0, 1}, {2}}, false)
	sameWays(t, "a good valve in the midst of two ways", p, 4, [][]int64{{2, 3, 4}, {0, 1, 3, 4}}, false)
	sameWays(t, "a good valve at the beginning of two ways", p, 4, [][]int64{{2, 3, 4}, {2, 3, 5}}, false)
	sameWays(t, "a good valve twice in one", p, 0, oneWay(0, 0), false)
	sameWays(t, "a good valve thrice in one", p, 1, oneWay(0, 0, 0), false)
	sameWays(t, "a good valve again behind others", p, 1, oneWay(0, 1, 2, 0), false)
	for _, valve := range []int64{impl.ValveNone, impl.ValveStuck} {
		free := changedPlan(p, func(p *impl.Plan) { p.Rows[0].Valve = valve })
		sameWays(t, "in two ways", free, 1, [][]int64{{0}, {0}}, true)
		sameWays(t, "twice in one", free, 0, oneWay(0, 0), true)
		sameWays(t, "thrice in one", free, 1, oneWay(0, 0, 0), true)
		sameWays(t, "again behind others", free, 1, oneWay(0, 1, 2, 0), true)
		sameWays(t, "in two ways, and a good one too", free, 2, [][]int64{{0, 1}, {0, 1}}, false)
	}
}

func TestWaysAtTheLimits(t *testing.T) {
	each := make([][]int64, impl.MaxRows)
	for i := range each {
		each[i] = []int64{int64(i)}
	}
	good, free := crowd(impl.ValveGood), crowd(impl.ValveStuck)
	sameWays(t, "MaxRows ways", good, 1, each, true)
	sameWays(t, "MaxRows ways, one of no Rows", good, 1, append(slices.Clone(each[:99]), nil), false)
	same := slices.Repeat(oneWay(99), impl.MaxList+1)
	sameWays(t, "MaxRows ways over one Row", free, 1, same[:impl.MaxRows], true)
	sameWays(t, "one way above MaxRows", free, 1, same[:impl.MaxRows+1], false)
	sameWays(t, "MaxList ways", free, 1, same[:impl.MaxList], false)
	sameWays(t, "one way above MaxList", free, 1, same, false)
	free.Sources = []int64{0, 1}
	sameWays(t, "a way of MaxRows Rows", free, 1, oneWay(numbers(7, impl.MaxRows)...), true)
	sameWays(t, "a way of one Row less", free, 1, oneWay(numbers(7, impl.MaxRows-1)...), true)
	sameWays(t, "a way of one Row more", free, 1, oneWay(numbers(7, impl.MaxRows+1)...), false)
	sameWays(t, "a way of one Row more, the last one", free, 1, [][]int64{{7}, numbers(7, impl.MaxRows+1)}, false)
	sameWays(t, "a way of MaxList Rows and one", free, 1, oneWay(numbers(7, impl.MaxList+1)...), false)
	var long []int64
	for n := range int64(impl.MaxPlaces - 1) {
		long = append(long, n)
	}
	sameWays(t, "a long street", street(impl.MaxPlaces), impl.MaxPlaces-1, oneWay(long...), true)
}

func TestWaysOfWrong(t *testing.T) {
	p := quarter()
	for what, n := range beside(0, 6) {
		sameWays(t, "the Row alone is "+what, p, 1, oneWay(n), false)
		sameWays(t, "the first Row is "+what, p, 1, oneWay(n, 0), false)
		sameWays(t, "the last Row is "+what, p, 1, oneWay(0, n), false)
		sameWays(t, "the Row of the last way is "+what, p, 1, [][]int64{{0}, {n}}, false)
		sameWays(t, "no ways, and the place is "+what, p, n, nil, false)
		sameWays(t, "a way of no Rows, and the place is "+what, p, n, oneWay(), false)
		sameWays(t, "a way of one Row, and the place is "+what, p, n, oneWay(0), false)
	}
	sameWays(t, "the last place", p, 6, nil, true)
	sameWays(t, "a Row of a plan without Rows", impl.Plan{Homes: []int64{0}, Sources: []int64{0}}, 0, oneWay(0), false)
	for what, p := range wrongPlans() {
		sameWays(t, "no ways, "+what, p, 0, nil, false)
		sameWays(t, "a way of no Rows, "+what, p, 0, oneWay(), false)
		sameWays(t, "a way of two Rows, "+what, p, 2, oneWay(0, 1), false)
	}
}

// plainLeads goes forward from a place, and tells where it comes to; -1, if it can't go on.
func plainLeads(p impl.Plan, at int64, way []int64) int64 {
	for _, n := range way {
		if n < 0 || n >= int64(len(p.Rows)) {
			return -1
		}
		switch r := p.Rows[n]; at {
		case r.From:
			at = r.To
		case r.To:
			at = r.From
		default:
			return -1
		}
	}
	return at
}

func plainWays(p impl.Plan, place int64, ways [][]int64) bool {
	times := map[int64]int{}
	for _, way := range ways {
		if !slices.ContainsFunc(p.Sources, func(source int64) bool { return plainLeads(p, source, way) == place }) {
			return false
		}
		for _, n := range way {
			times[n]++
			if times[n] > 1 && p.Rows[n].Valve == impl.ValveGood {
				return false
			}
		}
	}
	return true
}

// anyWay strolls from a Source, and ends where it comes to the place, if it does; now and then a Row
// of it is another one, or it is cut off.
func anyWay(random *rand.Rand, p impl.Plan, place int64) []int64 {
	at := p.Sources[random.Intn(len(p.Sources))]
	var way []int64
	for len(way) < 12 && (at != place || random.Intn(8) == 0) {
		n := random.Int63n(int64(len(p.Rows)))
		if to := plainLeads(p, at, []int64{n}); to >= 0 && !slices.Contains(way, n) {
			way, at = append(way, n), to
		} else if random.Intn(15) == 0 {
			break
		}
	}
	switch k := random.Intn(20); {
	case len(way) > 0 && k == 0:
		way[random.Intn(len(way))] = random.Int63n(int64(len(p.Rows)))
	case len(way) > 0 && k == 1:
		way = way[:random.Intn(len(way))]
	}
	return way
}

func TestWaysOfAny(t *testing.T) {
	random := rand.New(rand.NewSource(124))
	right, several, wrong := 0, 0, 0
	for range 8000 {
		p := anyPlan(random, 2+random.Intn(5), 1+random.Intn(12), 60)
		if len(p.Sources) == 0 {
			continue
		}
		place := random.Int63n(int64(len(p.Homes)))
		ways := make([][]int64, 1+random.Intn(3))
		for i := range ways {
			ways[i] = anyWay(random, p, place)
		}
		want := plainWays(p, place, ways)
		sameWays(t, "any", p, place, ways, want)
		switch {
		case t.Failed():
			t.Fatalf("of %+v, %v", p, ways)
		case !want:
			wrong++
		case len(ways) > 1:
			several++
		default:
			right++
		}
	}
	if right < 500 || several < 500 || wrong < 500 {
		t.Errorf("%d right, %d of several, %d wrong: too few to tell", right, several, wrong)
	}
}
