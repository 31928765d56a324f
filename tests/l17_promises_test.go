package tests

import (
	"math/rand"
	"slices"
	"testing"

	"loop.example/g00068/impl"
)

// TestPromise31PlansAreRight: whatever crew is enough for each Job, its plan is right by that crew.
func TestPromise31PlansAreRight(t *testing.T) {
	random := rand.New(rand.NewSource(175))
	for range 2000 {
		list := anyJobs(random, impl.MaxJobs)
		crew := anyCrew(random, list)
		out := impl.WorkPlan(list, crew)
		if out.Code != impl.OK || !impl.WorkRight(list, crew, out.Starts) {
			t.Fatalf("WorkPlan of %+v by %d: %+v is not right", list, crew, out)
		}
		if right, why := plainWorkRight(list, crew, out.Starts); !right {
			t.Fatalf("WorkPlan of %+v by %d: %+v has %s", list, crew, out, why)
		}
		if pairs := impl.WorkClash(list, out.Starts); len(pairs) > 0 {
			t.Fatalf("WorkPlan of %+v by %d: %+v clashes at %v", list, crew, out, pairs)
		}
	}
}

// TestPromise31NoSoonerThanItCan: no plan ends ahead of what Jobs must wait for one another, nor ahead of what
// its people can do in its days; and it ends with the last of its Jobs.
func TestPromise31NoSoonerThanItCan(t *testing.T) {
	random := rand.New(rand.NewSource(176))
	seen := map[string]int{}
	for range 2000 {
		list := anyJobs(random, impl.MaxJobs)
		crew := anyCrew(random, list)
		out, least := impl.WorkPlan(list, crew), impl.WorkLeast(list)
		if least.Code != impl.OK || out.End < least.End {
			t.Fatalf("WorkPlan of %+v by %d: %+v ends ahead of %+v", list, crew, out, least)
		}
		work := int64(0)
		for place, j := range list {
			if out.Starts[place] < least.Starts[place] {
				t.Fatalf("WorkPlan of %+v by %d: %+v starts ahead of %+v at %d", list, crew, out, least, place)
			}
			work += j.Days * j.Crew
		}
		if out.End != endOf(list, out.Starts) || work > crew*out.End {
			t.Fatalf("WorkPlan of %+v by %d: %+v does not end with the last one, or too soon", list, crew, out)
		}
		if out.End == least.End {
			seen["as soon"]++
		} else {
			seen["later"]++
		}
	}
	if seen["as soon"] < 100 || seen["later"] < 100 {
		t.Errorf("%v: too few to tell", seen)
	}
}

// TestPromise31EachAsSoonAsItCan: no Job of a plan could start sooner beside those ahead of it.
func TestPromise31EachAsSoonAsItCan(t *testing.T) {
	random := rand.New(rand.NewSource(177))
	for range 200 {
		list := anyJobs(random, impl.MaxJobs)
		crew := anyCrew(random, list)
		out := impl.WorkPlan(list, crew)
		for place, start := range out.Starts {
			ahead := slices.Clone(out.Starts[:place+1])
			for day := range start {
				ahead[place] = day
				if impl.WorkRight(list[:place+1], crew, ahead) {
					t.Fatalf("WorkPlan of %+v by %d: %+v could start on day %d at %d", list, crew, out, day, place)
				}
			}
		}
	}
}

// endOf is the day on which all have ended.
func endOf(list []impl.Job, starts []int64) int64 {
	end := int64(0)
	for place, j := range list {
		end = max(end, starts[place]+j.Days)
	}
	return end
}

// TestPromise31LeastIsLeast tries all starts of few Jobs: none that are right, by however many people, end ahead
// of WorkLeast; and where no Row is in the way, its own are right.
func TestPromise31LeastIsLeast(t *testing.T) {
	random := rand.New(rand.NewSource(178))
	for range 60 {
		list := anyJobs(random, 4)
		for i := range list {
			list[i].Days = min(list[i].Days, 2)
		}
		least := impl.WorkLeast(list)
		starts := make([]int64, len(list))
		for tried := true; tried; tried = nextStarts(starts, 8) {
			if impl.WorkRight(list, 1000, starts) && endOf(list, starts) < least.End {
				t.Fatalf("WorkLeast of %+v: got %+v, but %v are right", list, least, starts)
			}
		}
		for i := range list {
			list[i].Rows = nil
		}
		if !impl.WorkRight(list, 1000, least.Starts) {
			t.Fatalf("WorkLeast of %+v: %+v is not right", list, least)
		}
	}
}

// nextStarts goes through all lists of numbers below most; false, when there is none left.
func nextStarts(starts []int64, most int64) bool {
	for i := range starts {
		starts[i]++
		if starts[i] < most {
			return true
		}
		starts[i] = 0
	}
	return false
}

// TestPromise31NoOtherIsRight: one Job of a plan, moved to where it is too early, where people are too few or
// where it clashes, makes it wrong.
func TestPromise31NoOtherIsRight(t *testing.T) {
	random := rand.New(rand.NewSource(179))
	seen := map[string]int{}
	for range 200 {
		list := anyJobs(random, impl.MaxJobs)
		crew := anyCrew(random, list)
		starts := impl.WorkPlan(list, crew).Starts
		for place, was := range starts {
			starts[place] = max(0, was+random.Int63n(31)-15)
			want, why := plainWorkRight(list, crew, starts)
			seen[why]++
			if got := impl.WorkRight(list, crew, starts); got != want {
				t.Fatalf("WorkRight of %+v by %d on %v: got %v, but it is %s", list, crew, starts, got, why)
			}
			starts[place] = was
		}
	}
	for _, why := range []string{"right", "too early", "too many people", "a clash"} {
		if seen[why] < 50 {
			t.Errorf("%v: too few of %s to tell", seen, why)
		}
	}
}
