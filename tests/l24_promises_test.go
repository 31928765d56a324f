package tests

import (
	"math/rand"
	"slices"
	"testing"

	"loop.example/g00068/impl"
)

// anyTown is homes and notices of which no more than MaxTold Letters are sent.
func anyTown(random *rand.Rand) ([]impl.Home, []impl.Notice) {
	areas := []int64{1, 3, 6, 100}[random.Intn(4)]
	homes := anyHomes(random, random.Intn(12), areas)
	return homes, anyNotices(random, random.Intn(150), 1+random.Int63n([]int64{3, 9, 99}[random.Intn(3)]), areas)
}

// mustSend is the answer of a run that is not refused.
func mustSend(t *testing.T, homes []impl.Home, list []impl.Notice) impl.NoticeOut {
	t.Helper()
	out := impl.NoticeRun(homes, list)
	if out.Code != impl.OK {
		t.Fatalf("NoticeRun: got Code %d of %+v by %+v", out.Code, homes, list)
	}
	return out
}

// stateFor is what a home is to know in the end: of what it is not to know, and of what is over, nought.
func stateFor(h impl.Home, list []impl.Notice, number int64) int64 {
	last, any := lastOf(list, number)
	if !any || !slices.Contains(last.Areas, h.Area) {
		return 0
	}
	return last.State
}

// TestPromise39LastState: behind a Flush the last Letter to each home says what it is to know, and nothing waits.
func TestPromise39LastState(t *testing.T) {
	random := rand.New(rand.NewSource(244))
	known := 0
	for range 1500 {
		homes, list := anyTown(random)
		list = append(list, flushAll())
		out := mustSend(t, homes, list)
		if out.Waits != 0 {
			t.Fatalf("%d wait behind a Flush, of %+v by %+v", out.Waits, homes, list)
		}
		for _, h := range homes {
			for number := int64(1); number <= 99; number++ {
				was, _ := plainLast(out.Letters, h.Name, number)
				if want := stateFor(h, list, number); was.State != want {
					t.Fatalf("%+v was told %+v, not %d, of %+v", h, was, want, list)
				}
				known += int(min(was.State, 1))
			}
		}
	}
	if known < 5000 {
		t.Errorf("%d known: too few to tell", known)
	}
}

// TestPromise39Once: no Letter says what the one ahead of it to the same home of the same Number said, the first one
// never that it is over, and at one Flush no home has two of a Number.
func TestPromise39Once(t *testing.T) {
	random := rand.New(rand.NewSource(245))
	type concern struct {
		name   string
		number int64
	}
	sentAll := 0
	for range 1500 {
		homes, list := anyTown(random)
		told := map[concern]int64{}
		for _, l := range mustSend(t, homes, list).Letters {
			c := concern{l.Name, l.Number}
			if l.State == told[c] {
				t.Fatalf("%+v is told twice, of %+v by %+v", l, homes, list)
			}
			told[c] = l.State
			sentAll++
		}
		ahead := 0
		for at := range list {
			if !list[at].Flush || random.Intn(4) > 0 {
				continue
			}
			ahead = len(mustSend(t, homes, list[:at]).Letters)
			atThis := map[concern]bool{}
			for _, l := range mustSend(t, homes, list[:at+1]).Letters[ahead:] {
				c := concern{l.Name, l.Number}
				if atThis[c] {
					t.Fatalf("%+v twice at a Flush, of %+v by %+v", l, homes, list)
				}
				atThis[c] = true
			}
		}
	}
	if sentAll < 20000 {
		t.Errorf("%d sent: too few to tell", sentAll)
	}
}

// TestPromise39Again: one more Flush, and all that is said once more, sends nothing.
func TestPromise39Again(t *testing.T) {
	random := rand.New(rand.NewSource(246))
	for range 500 {
		homes, list := anyTown(random)
		list = append(list, flushAll())
		want := mustSend(t, homes, list)
		sameNoticeOut(t, "one Flush more", impl.NoticeRun(homes, append(slices.Clone(list), flushAll())), want)
		again := slices.Clone(list)
		for number := int64(99); number > 0; number-- {
			if last, any := lastOf(list, number); any {
				again = append(again, last)
			}
		}
		sameNoticeOut(t, "all said once more", impl.NoticeRun(homes, append(again, flushAll())), want)
	}
}

// TestPromise39Waits: what waits is what a Flush would send, and what was sent stays ahead of it.
func TestPromise39Waits(t *testing.T) {
	random := rand.New(rand.NewSource(247))
	waited := 0
	for range 1000 {
		homes, list := anyTown(random)
		out := mustSend(t, homes, list)
		then := mustSend(t, homes, append(slices.Clone(list), flushAll()))
		if int64(len(then.Letters)-len(out.Letters)) != out.Waits || !slices.Equal(then.Letters[:len(out.Letters)], out.Letters) {
			t.Fatalf("%d wait, %+v behind %+v", out.Waits, then, out)
		}
		waited += int(min(out.Waits, 1))
	}
	if waited < 300 {
		t.Errorf("%d waited: too few to tell", waited)
	}
}

// TestPromise39HomeByHome: what a home is told does not hang on the other ones, nor on what is told elsewhere.
func TestPromise39HomeByHome(t *testing.T) {
	random := rand.New(rand.NewSource(248))
	for range 300 {
		homes, list := anyTown(random)
		for _, h := range homes {
			alone := mustSend(t, []impl.Home{h}, list).Letters
			if got := impl.NoticeFor(homes, list, h.Name); !slices.Equal(got, alone) {
				t.Fatalf("%+v: %+v among others, %+v alone", h, got, alone)
			}
			var here []impl.Notice
			for _, n := range list {
				if !n.Flush {
					n.Areas = slices.DeleteFunc(slices.Clone(n.Areas), func(area int64) bool { return area != h.Area })
				}
				here = append(here, n)
			}
			if got := impl.NoticeFor(homes, here, h.Name); !slices.Equal(got, alone) {
				t.Fatalf("%+v: %+v by its area alone, %+v else", h, got, alone)
			}
		}
	}
}
