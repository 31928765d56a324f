package tests

import (
	"math/rand"
	"slices"
	"testing"

	"loop.example/g00068/impl"
)

// watchedReads calls with reads of its own, with room behind them, and tells if these were changed.
func watchedReads(t *testing.T, what string, list []impl.Read, call func(list []impl.Read)) {
	t.Helper()
	behind := impl.Read{Day: -7, Shows: -7}
	given := slices.Concat(list, []impl.Read{behind})
	if list == nil {
		call(nil)
	} else {
		call(given[:len(list)])
	}
	if !slices.Equal(given[:len(list)], list) || given[len(list)] != behind {
		t.Errorf("%s: the reads were changed", what)
	}
}

func sameMeterRun(t *testing.T, what string, m impl.Meter, list []impl.Read, want impl.MeterOut) {
	t.Helper()
	watchedReads(t, "MeterRun, "+what, list, func(list []impl.Read) {
		sameMeter(t, "MeterRun, "+what, impl.MeterRun(m, list), want)
	})
}

// year are reads of a gauge of each kind.
func year() []impl.Read {
	return []impl.Read{{Day: 110, Shows: 9800}, {Day: 120, Shows: -1}, {Day: 121, Shows: 700}, {Day: 122, Shows: 701}}
}

// yearOut is what a gauge tells of them.
func yearOut() impl.MeterOut {
	return impl.MeterOut{Meter: impl.Meter{Digits: 4, Usual: 30, Day: 122, Shows: 701}, Uses: []impl.Use{
		{From: 100, To: 110, Water: 300, Kind: impl.ReadGood},
		{From: 110, To: 120, Water: 300, Kind: impl.ReadGuess},
		{From: 120, To: 121, Water: 600, Kind: impl.ReadHigh},
		{From: 121, To: 122, Water: 1, Kind: impl.ReadLow},
	}}
}

// dailyReads are so many reads of a gauge, as usual, a day each.
func dailyReads(count int) []impl.Read {
	list := make([]impl.Read, count)
	for i := range list {
		list[i] = impl.Read{Day: 101 + int64(i), Shows: (9530 + 30*int64(i)) % 10000}
	}
	return list
}

func plainMeterRun(m impl.Meter, list []impl.Read) impl.MeterOut {
	var uses []impl.Use
	for _, read := range list {
		behind, use := plainRead(m, read)
		m, uses = behind, append(uses, use)
	}
	return impl.MeterOut{Meter: m, Uses: uses}
}

func TestMeterRunByHand(t *testing.T) {
	want := yearOut()
	sameMeterRun(t, "a year", gauge(), year(), want)
	sameMeterRun(t, "its beginning", gauge(), year()[:1], impl.MeterOut{
		Meter: impl.Meter{Digits: 4, Usual: 30, Day: 110, Shows: 9800}, Uses: want.Uses[:1]})
	sameMeterRun(t, "Usual of one good read is asked by the next one", gauge(), []impl.Read{{Day: 101, Shows: 9750}, {Day: 102, Shows: 275}}, impl.MeterOut{
		Meter: impl.Meter{Digits: 4, Usual: 195, Day: 102, Shows: 275},
		Uses:  []impl.Use{{From: 100, To: 101, Water: 250, Kind: impl.ReadGood}, {From: 101, To: 102, Water: 525, Kind: impl.ReadGood}}})
	sameMeterRun(t, "guesses alone", gauge(), []impl.Read{{Day: 111, Shows: -1}, {Day: 120, Shows: -1}}, impl.MeterOut{
		Meter: impl.Meter{Digits: 4, Usual: 30, Day: 120, Shows: 100},
		Uses:  []impl.Use{{From: 100, To: 111, Water: 330, Kind: impl.ReadGuess}, {From: 111, To: 120, Water: 270, Kind: impl.ReadGuess}}})
}

func TestMeterRunOfNoReads(t *testing.T) {
	for what, m := range rightMeters() {
		sameMeterRun(t, "no reads, "+what, m, nil, impl.MeterOut{Meter: m})
		sameMeterRun(t, "an empty list, "+what, m, []impl.Read{}, impl.MeterOut{Meter: m})
	}
	for what, m := range wrongMeters() {
		sameMeterRun(t, "no reads, "+what, m, nil, meterFault(impl.ErrForm))
	}
}

func TestMeterRunForm(t *testing.T) {
	for what, m := range wrongMeters() {
		sameMeterRun(t, what, m, year(), meterFault(impl.ErrForm))
		sameMeterRun(t, what+", MaxReads", m, dailyReads(impl.MaxReads), meterFault(impl.ErrForm))
	}
	for what, read := range wrongReads() {
		sameMeterRun(t, what+", alone", gauge(), []impl.Read{read}, meterFault(impl.ErrForm))
		sameMeterRun(t, what+", first", gauge(), slices.Concat([]impl.Read{read}, year()), meterFault(impl.ErrForm))
		sameMeterRun(t, what+", within", gauge(), slices.Concat(dailyReads(1), []impl.Read{read}, dailyReads(20)[15:]), meterFault(impl.ErrForm))
		sameMeterRun(t, what+", last", gauge(), slices.Concat(dailyReads(5), []impl.Read{read}), meterFault(impl.ErrForm))
	}
	for place := 1; place < 4; place++ {
		for _, back := range []int64{0, 1, 15} {
			list := year()
			list[place].Day = list[place-1].Day - back
			sameMeterRun(t, "a Day not above the one ahead", gauge(), list, meterFault(impl.ErrForm))
		}
	}
	last := []impl.Read{{Day: impl.MaxDays, Shows: -1}, {Day: impl.MaxDays + 1, Shows: -1}}
	if out := impl.MeterRun(gauge(), last[:1]); out.Code != impl.OK || out.Meter.Day != impl.MaxDays {
		t.Errorf("to the last day: got %+v", out)
	}
	sameMeterRun(t, "beyond the last day", gauge(), last, meterFault(impl.ErrForm))
}

func TestMeterRunSize(t *testing.T) {
	sameMeterRun(t, "MaxReads", gauge(), dailyReads(impl.MaxReads), plainMeterRun(gauge(), dailyReads(impl.MaxReads)))
	for _, count := range []int{impl.MaxReads + 1, impl.MaxList, impl.MaxList + 1} {
		long := dailyReads(count)
		sameMeterRun(t, "too many", gauge(), long, meterFault(impl.ErrSize))
		sameMeterRun(t, "too many, all wrong", gauge(), make([]impl.Read, count), meterFault(impl.ErrSize))
		for what, m := range wrongMeters() {
			sameMeterRun(t, "too many, "+what, m, long, meterFault(impl.ErrSize))
		}
	}
	wrong := dailyReads(impl.MaxReads)
	wrong[impl.MaxReads-1].Shows = -2
	sameMeterRun(t, "MaxReads, the last one wrong", gauge(), wrong, meterFault(impl.ErrForm))
}

// anyMeterReads are right ones, one behind the other.
func anyMeterReads(random *rand.Rand, m impl.Meter, count int) []impl.Read {
	list := make([]impl.Read, count)
	for i := range list {
		list[i] = anyRead(random, m)
		m, _ = plainRead(m, list[i])
	}
	return list
}

func TestMeterRunOfAny(t *testing.T) {
	random := rand.New(rand.NewSource(152))
	for range 2000 {
		m := anyMeter(random)
		list := anyMeterReads(random, m, random.Intn(impl.MaxReads+1))
		sameMeterRun(t, "any", m, list, plainMeterRun(m, list))
		if t.Failed() {
			t.Fatalf("of %+v, %+v", m, list)
		}
	}
}

func TestMeterRunIsNew(t *testing.T) {
	list := year()
	out := impl.MeterRun(gauge(), list)
	for i := range list {
		list[i] = impl.Read{}
	}
	sameMeter(t, "behind spoilt reads", out, yearOut())
	for i := range out.Uses {
		out.Uses[i] = impl.Use{}
	}
	sameMeterRun(t, "behind a spoilt answer", gauge(), year(), yearOut())
}
