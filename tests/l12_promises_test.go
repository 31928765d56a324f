package tests

import (
	"math/rand"
	"slices"
	"testing"

	"loop.example/g00068/impl"
)

// ferry carries as many ways as there can be over the Rows of a plan: of each Row it knows how many
// go from its From to its To, less those that go back.
type ferry struct {
	plan  impl.Plan
	place int64
	runs  []int
	been  map[int64]bool
}

// over tells where a Row leads from a place, and how many ways go there.
func (f *ferry) over(n int, at int64) (int64, int) {
	switch r := f.plan.Rows[n]; at {
	case r.From:
		return r.To, f.runs[n]
	case r.To:
		return r.From, -f.runs[n]
	}
	return -1, 0
}

func (f *ferry) run(n int, at int64, count int) {
	if f.plan.Rows[n].From == at {
		f.runs[n] += count
	} else {
		f.runs[n] -= count
	}
}

// more looks for one more way from here to the place, where it may drive others back.
func (f *ferry) more(at int64) bool {
	if at == f.place {
		return true
	}
	f.been[at] = true
	for n, r := range f.plan.Rows {
		to, count := f.over(n, at)
		if to < 0 || f.been[to] || r.Valve == impl.ValveGood && count > 0 {
			continue
		}
		if f.more(to) {
			f.run(n, at, 1)
			return true
		}
	}
	return false
}

// next takes one of the ways that go on from here.
func (f *ferry) next(at int64) (int, int64) {
	for n := range f.plan.Rows {
		if to, count := f.over(n, at); count > 0 {
			f.run(n, at, -1)
			return n, to
		}
	}
	return -1, -1
}

// way is one of those found, from a Source on, without its rings.
func (f *ferry) way(at int64) []int64 {
	way, places := []int64{}, []int64{at}
	for at != f.place {
		n, to := f.next(at)
		if n < 0 {
			return nil
		}
		way, places, at = append(way, int64(n)), append(places, to), to
		if first := slices.Index(places, to); first < len(places)-1 {
			way, places = way[:first], places[:first+1]
		}
	}
	return way
}

// mostWays are as many ways to a place as there can be; it is asked of places that can be shut off.
func mostWays(p impl.Plan, place int64) [][]int64 {
	f := &ferry{plan: p, place: place, runs: make([]int, len(p.Rows))}
	var starts []int64
	for _, source := range p.Sources {
		for {
			f.been = map[int64]bool{}
			if !f.more(source) {
				break
			}
			starts = append(starts, source)
		}
	}
	var ways [][]int64
	for _, start := range starts {
		ways = append(ways, f.way(start))
	}
	return ways
}

func alsoFrom(p impl.Plan, place int64) impl.Plan {
	return changedPlan(p, func(p *impl.Plan) {
		p.Sources = append(p.Sources, place)
		slices.Sort(p.Sources)
	})
}

// fewestDry: each place that is dry is so by any set of as few Rows; so there is none by which fewer
// places are. If it is not so of one, that one can be a Source, and as few Rows still do.
func fewestDry(t *testing.T, p impl.Plan, place int64, out impl.ShutOut) {
	t.Helper()
	for _, dry := range impl.DryPlaces(p, out.Rows) {
		if dry == place || slices.Contains(impl.DryPlaces(p, nil), dry) {
			continue
		}
		if other := impl.LeastShut(alsoFrom(p, dry), place); other.Code == impl.OK && len(other.Rows) <= len(out.Rows) {
			t.Fatalf("%+v, place %d: by %v place %d need not be dry", p, place, out.Rows, dry)
		}
	}
}

func TestPromise24LeastShutIsTheLeast(t *testing.T) {
	random := rand.New(rand.NewSource(125))
	none, many, spread := 0, 0, 0
	for i := range 1500 {
		places, rows := 3+random.Intn(12), 4+random.Intn(40)
		if i%5 == 0 {
			places, rows = 20+random.Intn(21), impl.MaxRows
		}
		p := anyPlan(random, places, rows, 70+random.Intn(31))
		place := random.Int63n(int64(places))
		out := impl.LeastShut(p, place)
		if out.Code != impl.OK {
			sameShut(t, "what all good valves can't do", p, place, shutFault(impl.ErrNone))
			if impl.ShutRight(p, place, goodPlaces(p)) {
				t.Fatalf("%+v, place %d: can be shut off", p, place)
			}
			none++
			continue
		}
		ways := mostWays(p, place)
		if !impl.ShutRight(p, place, out.Rows) || out.Homes != impl.DryHomes(p, out.Rows) {
			t.Fatalf("%+v, place %d: %+v does not shut it off", p, place, out)
		}
		if len(ways) != len(out.Rows) || !impl.WaysRight(p, place, ways) {
			t.Fatalf("%+v, place %d: %v shut, but the ways are %v", p, place, out.Rows, ways)
		}
		fewestDry(t, p, place, out)
		if len(out.Rows) > 3 {
			many++
		}
		if len(impl.DryPlaces(p, out.Rows)) > len(impl.DryPlaces(p, nil))+1 {
			spread++
		}
	}
	if none < 100 || many < 50 || spread < 50 {
		t.Errorf("%d without, %d of many Rows, %d of many places: too few to tell", none, many, spread)
	}
}

// Whoever leaves a Row out of it does not shut the place off.
func TestPromise24NoRowIsLeftOut(t *testing.T) {
	random := rand.New(rand.NewSource(126))
	left := 0
	for range 1000 {
		p := anyPlan(random, 3+random.Intn(12), 4+random.Intn(40), 90)
		place := random.Int63n(int64(len(p.Homes)))
		rows := impl.LeastShut(p, place).Rows
		for i := range rows {
			if impl.ShutRight(p, place, slices.Delete(slices.Clone(rows), i, i+1)) {
				t.Fatalf("%+v, place %d: not all of %v are asked for", p, place, rows)
			}
			left++
		}
	}
	if left < 500 {
		t.Errorf("%d Rows left out: too few to tell", left)
	}
}

func TestPromise25ShuttingMoreMakesNoPlaceWet(t *testing.T) {
	random := rand.New(rand.NewSource(127))
	grown := 0
	for range 1500 {
		p := anyPlan(random, 2+random.Intn(20), random.Intn(40), 70)
		good := goodPlaces(p)
		some := anySet(random, good)
		more := slices.DeleteFunc(slices.Clone(good), func(n int64) bool {
			return !slices.Contains(some, n) && random.Intn(2) == 0
		})
		before, behind := impl.DryPlaces(p, some), impl.DryPlaces(p, more)
		for place := range int64(len(p.Homes)) {
			if slices.Contains(before, place) && !slices.Contains(behind, place) || impl.ShutRight(p, place, some) && !impl.ShutRight(p, place, more) {
				t.Fatalf("%+v: place %d is dry by %v, not by %v", p, place, some, more)
			}
		}
		if impl.DryHomes(p, some) > impl.DryHomes(p, more) {
			t.Fatalf("%+v: more homes are dry by %v than by %v", p, some, more)
		}
		if len(behind) > len(before) {
			grown++
		}
	}
	if grown < 200 {
		t.Errorf("%d with more dry places: too few to tell", grown)
	}
}
