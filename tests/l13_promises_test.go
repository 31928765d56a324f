package tests

import (
	"math/rand"
	"slices"
	"testing"

	"loop.example/g00068/impl"
)

// greatDay has as many slots as may be, and wants that its pumps can meet for the most part.
func greatDay(random *rand.Rand) impl.Day {
	d := impl.Day{Low: random.Int63n(60), Tank: 60 + random.Int63n(180), High: 240 + random.Int63n(61)}
	for range 1 + random.Intn(impl.MaxModes) {
		d.Modes = append(d.Modes, mode(random.Int63n(80), anyNumber(random, 1000)))
	}
	for range impl.MaxSlots - random.Intn(10) {
		d.Wants = append(d.Wants, random.Int63n(70))
		d.Prices = append(d.Prices, anyNumber(random, 1000))
	}
	return d
}

// dayPurse goes on from what was paid to get to each tank, the other way round than a table does.
func dayPurse(d impl.Day) (int64, bool) {
	paid := map[int64]int64{d.Tank: 0}
	for slot, want := range d.Wants {
		next := map[int64]int64{}
		for tank, before := range paid {
			for _, m := range d.Modes {
				after, cost := tank+m.Lift-want, before+m.Power*d.Prices[slot]
				if least, known := next[after]; after >= d.Low && after <= d.High && (!known || cost < least) {
					next[after] = cost
				}
			}
		}
		paid = next
	}
	least, found := int64(0), false
	for _, cost := range paid {
		if !found || cost < least {
			least, found = cost, true
		}
	}
	return least, found
}

// wander is any plan of a day, if by chance it finds one.
func wander(random *rand.Rand, d impl.Day) ([]int64, bool) {
	var modes []int64
	tank := d.Tank
	for _, want := range d.Wants {
		var fit []int64
		for place, m := range d.Modes {
			if after := tank + m.Lift - want; after >= d.Low && after <= d.High {
				fit = append(fit, int64(place))
			}
		}
		if len(fit) == 0 {
			return nil, false
		}
		place := fit[random.Intn(len(fit))]
		modes, tank = append(modes, place), tank+d.Modes[place].Lift-want
	}
	return modes, true
}

// shownBy: does the table hold what is left to be paid ahead of each slot of the best plan?
func shownBy(table [][]int64, d impl.Day, best impl.DayOut) bool {
	left, tank := best.Cost, d.Tank
	for slot, place := range best.Modes {
		if table[slot][tank-d.Low] != left {
			return false
		}
		left -= d.Modes[place].Power * d.Prices[slot]
		tank += d.Modes[place].Lift - d.Wants[slot]
	}
	return left == 0 && tank == best.End
}

func TestPromise26DayBestCostsAsLittleAsAnyPlan(t *testing.T) {
	random := rand.New(rand.NewSource(134))
	seen := map[string]int{}
	for range 400 {
		d := greatDay(random)
		best, table := impl.DayBest(d), impl.DayTable(d)
		least, found := dayPurse(d)
		if found != (best.Code == impl.OK) || best.Cost != least {
			t.Fatalf("of %+v: got %+v, but the least is %d (%v)", d, best, least, found)
		}
		if !impl.TableRight(d, table) {
			t.Fatalf("of %+v: the table is not right", d)
		}
		if !found {
			if table[0][d.Tank-d.Low] != -1 || best.Code != impl.ErrShort {
				t.Fatalf("of %+v: got %+v, and in the table %d", d, best, table[0][d.Tank-d.Low])
			}
			seen["none"]++
			continue
		}
		sameDayOut(t, "DayCost of the best", impl.DayCost(d, best.Modes), best)
		if !shownBy(table, d, best) {
			t.Errorf("the table does not show it")
		}
		for range 20 {
			if modes, whole := wander(random, d); whole {
				seen["any"]++
				if out := impl.DayCost(d, modes); out.Code != impl.OK || out.Cost < best.Cost {
					t.Errorf("a plan %v: got %+v, but the best one costs %d", modes, out, best.Cost)
				} else if out.Cost == best.Cost && slices.Compare(modes, best.Modes) < 0 {
					t.Errorf("a plan %v ahead of the first one %v", modes, best.Modes)
				}
			}
		}
		if t.Failed() {
			t.Fatalf("of %+v", d)
		}
		seen["some"]++
	}
	if seen["none"] < 20 || seen["some"] < 100 || seen["any"] < 500 {
		t.Errorf("%v: too few to tell", seen)
	}
}

// TestPromise26TablesShowIt turns one number of a table: then it shows nothing any more.
func TestPromise26TablesShowIt(t *testing.T) {
	random := rand.New(rand.NewSource(135))
	for range 200 {
		d := greatDay(random)
		table := impl.DayTable(d)
		sameTableRight(t, "as it was told", d, table, true)
		for range 10 {
			turned := copiedTable(table)
			i := random.Intn(len(table))
			j := random.Intn(len(table[i]))
			turned[i][j] += []int64{-1, 1, 1000}[random.Intn(3)]
			sameTableRight(t, "a number turned", d, turned, false)
		}
		if t.Failed() {
			t.Fatalf("of %+v", d)
		}
	}
}
