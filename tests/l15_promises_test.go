package tests

import (
	"math/rand"
	"slices"
	"testing"

	"loop.example/g00068/impl"
)

// usedBy is all water of some uses.
func usedBy(list []impl.Use) int64 {
	sum := int64(0)
	for _, u := range list {
		sum += u.Water
	}
	return sum
}

// TestPromise28EachTurn counts a meter of three digits on, from each of its numbers, until it is there again.
func TestPromise28EachTurn(t *testing.T) {
	for from := range int64(1000) {
		at := from
		for ran := range int64(1000) {
			if got := impl.MeterTurn(3, from, at); got != ran {
				t.Fatalf("MeterTurn from %d to %d: got %d, want %d", from, at, got, ran)
			}
			at++
			if at == 1000 {
				at = 0
			}
		}
	}
}

// TestPromise28TurnsAndBack: both ways between two numbers are once round.
func TestPromise28TurnsAndBack(t *testing.T) {
	random := rand.New(rand.NewSource(154))
	for range 20000 {
		m := anyMeter(random)
		full := fulls()[m.Digits]
		to := anyNumber(random, full-1)
		there, back := impl.MeterTurn(m.Digits, m.Shows, to), impl.MeterTurn(m.Digits, to, m.Shows)
		if (m.Shows+there)%full != to || there < 0 || there >= full || (there+back)%full != 0 || there+back > full {
			t.Fatalf("of %d digits, %d to %d: %d there, %d back", m.Digits, m.Shows, to, there, back)
		}
	}
}

// TestPromise28RollOver: what a meter shows in the end is what it showed, and all that was used, less whole rounds.
func TestPromise28RollOver(t *testing.T) {
	random := rand.New(rand.NewSource(155))
	over := 0
	for range 2000 {
		m := anyMeter(random)
		list := anyMeterReads(random, m, random.Intn(impl.MaxReads+1))
		run := impl.MeterRun(m, list)
		full := fulls()[m.Digits]
		if run.Code != impl.OK || !impl.MeterRight(run.Meter) || run.Meter.Digits != m.Digits || run.Meter.Shows != (m.Shows+usedBy(run.Uses))%full {
			t.Fatalf("MeterRun of %+v by %+v: got %+v", m, list, run)
		}
		if m.Shows+usedBy(run.Uses) >= full {
			over++
		}
	}
	if over < 500 {
		t.Errorf("%d ran over: too few to tell", over)
	}
}

// TestPromise28NothingIsLost: of a meter that is read before it has gone round, all that ran through is told.
func TestPromise28NothingIsLost(t *testing.T) {
	random := rand.New(rand.NewSource(156))
	for range 1000 {
		m := anyMeter(random)
		full := fulls()[m.Digits]
		ran, day := int64(0), m.Day
		list := make([]impl.Read, random.Intn(impl.MaxReads+1))
		for i := range list {
			ran += random.Int63n(full)
			day += 1 + random.Int63n(100)
			list[i] = impl.Read{Day: day, Shows: (m.Shows + ran) % full}
		}
		run := impl.MeterRun(m, list)
		if run.Code != impl.OK || usedBy(run.Uses) != ran {
			t.Fatalf("MeterRun of %+v by %+v: got %+v, but %d ran", m, list, run, ran)
		}
	}
}

func TestPromise28UsesFollowOneAnother(t *testing.T) {
	random := rand.New(rand.NewSource(157))
	for range 2000 {
		m := anyMeter(random)
		list := anyMeterReads(random, m, random.Intn(impl.MaxReads+1))
		run := impl.MeterRun(m, list)
		if run.Code != impl.OK || len(run.Uses) != len(list) {
			t.Fatalf("MeterRun of %+v by %+v: got %+v", m, list, run)
		}
		day := m.Day
		for i, u := range run.Uses {
			if u.From != day || u.To <= day || u.To != list[i].Day || u.Kind < impl.ReadGood || u.Kind > impl.ReadGuess {
				t.Fatalf("MeterRun of %+v by %+v: use %d of %+v", m, list, i, run.Uses)
			}
			day = u.To
		}
		if run.Meter.Day != day || impl.UseOf(run.Uses, m.Day, day) != usedBy(run.Uses) {
			t.Fatalf("MeterRun of %+v by %+v: got %+v", m, list, run)
		}
	}
}

// TestPromise28InParts: a meter behind some reads is what the others begin with.
func TestPromise28InParts(t *testing.T) {
	random := rand.New(rand.NewSource(158))
	for range 1000 {
		m := anyMeter(random)
		list := anyMeterReads(random, m, 1+random.Intn(impl.MaxReads))
		run := impl.MeterRun(m, list)
		cut := random.Intn(len(list) + 1)
		first := impl.MeterRun(m, list[:cut])
		second := impl.MeterRun(first.Meter, list[cut:])
		second.Uses = slices.Concat(first.Uses, second.Uses)
		sameMeter(t, "in parts", run, second)
		at := impl.MeterOut{Meter: m}
		for _, read := range list {
			one := impl.MeterRead(at.Meter, read)
			at.Meter, at.Uses = one.Meter, append(at.Uses, one.Uses...)
		}
		sameMeter(t, "one by one", run, at)
		if t.Failed() {
			t.Fatalf("of %+v by %+v, cut at %d", m, list, cut)
		}
		if day := first.Meter.Day; impl.UseOf(run.Uses, 0, day) != usedBy(first.Uses) || impl.UseOf(run.Uses, day, impl.MaxDays) != usedBy(run.Uses[cut:]) {
			t.Fatalf("UseOf of %+v up to and from day %d", run.Uses, day)
		}
	}
}
