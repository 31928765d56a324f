package tests

import (
	"math"
	"math/rand"
	"slices"
	"testing"

	"loop.example/g00068/impl"
)

// gauge has 9999 as its greatest number, and 500 to go until it begins at nought again.
func gauge() impl.Meter {
	return impl.Meter{Digits: 4, Usual: 30, Day: 100, Shows: 9500}
}

func changedMeter(change func(m *impl.Meter)) impl.Meter {
	m := gauge()
	change(&m)
	return m
}

// fulls are the numbers at which meters begin at nought again, by their digits.
func fulls() map[int64]int64 {
	return map[int64]int64{3: 1000, 4: 10000, 5: 100000, 6: 1000000, 7: 10000000}
}

func meterFault(code int64) impl.MeterOut {
	return impl.MeterOut{Code: code}
}

// readAt is what one read tells.
func readAt(m impl.Meter, use impl.Use) impl.MeterOut {
	return impl.MeterOut{Meter: m, Uses: []impl.Use{use}}
}

func sameMeter(t *testing.T, what string, got impl.MeterOut, want impl.MeterOut) {
	t.Helper()
	if got.Code != want.Code || got.Meter != want.Meter || !slices.Equal(got.Uses, want.Uses) {
		t.Errorf("%s: got %+v, want %+v", what, got, want)
	}
}

// wrongMeters are right but for what their names say.
func wrongMeters() map[string]impl.Meter {
	wrong := map[string]impl.Meter{"none": {}}
	add := func(what string, change func(m *impl.Meter)) {
		wrong[what] = changedMeter(change)
	}
	for what, n := range beside(3, 7) {
		add("Digits are "+what, func(m *impl.Meter) { m.Digits = n })
		add("Digits are "+what+", Shows is 0", func(m *impl.Meter) { m.Digits, m.Shows = n, 0 })
	}
	for what, n := range beside(0, 10000) {
		add("Usual is "+what, func(m *impl.Meter) { m.Usual = n })
	}
	for what, n := range beside(0, impl.MaxDays) {
		add("Day is "+what, func(m *impl.Meter) { m.Day = n })
	}
	for digits, full := range fulls() {
		for what, n := range beside(0, full-1) {
			add("Shows of "+decimal(digits)+" digits is "+what, func(m *impl.Meter) { m.Digits, m.Shows = digits, n })
		}
	}
	return wrong
}

// rightMeters are at the limits, or of little.
func rightMeters() map[string]impl.Meter {
	right := map[string]impl.Meter{
		"a gauge":    gauge(),
		"all at 0":   {Digits: 3},
		"no Usual":   changedMeter(func(m *impl.Meter) { m.Usual = 0 }),
		"most Usual": changedMeter(func(m *impl.Meter) { m.Usual = 10000 }),
		"first Day":  changedMeter(func(m *impl.Meter) { m.Day = 0 }),
		"last Day":   changedMeter(func(m *impl.Meter) { m.Day = impl.MaxDays }),
	}
	for digits, full := range fulls() {
		right["noughts of "+decimal(digits)] = impl.Meter{Digits: digits}
		right["nines of "+decimal(digits)] = impl.Meter{Digits: digits, Usual: 10000, Day: impl.MaxDays, Shows: full - 1}
	}
	return right
}

func TestMeterRight(t *testing.T) {
	for what, m := range rightMeters() {
		if !impl.MeterRight(m) {
			t.Errorf("%s: %+v is not right", what, m)
		}
	}
	for what, m := range wrongMeters() {
		if impl.MeterRight(m) {
			t.Errorf("%s: %+v is right", what, m)
		}
	}
}

func sameTurn(t *testing.T, digits int64, from int64, to int64, want int64) {
	t.Helper()
	if got := impl.MeterTurn(digits, from, to); got != want {
		t.Errorf("MeterTurn of %d digits from %d to %d: got %d, want %d", digits, from, to, got, want)
	}
}

func TestMeterTurn(t *testing.T) {
	for digits, full := range fulls() {
		sameTurn(t, digits, 0, 0, 0)
		sameTurn(t, digits, 0, 1, 1)
		sameTurn(t, digits, 1, 0, full-1)
		sameTurn(t, digits, 0, full-1, full-1)
		sameTurn(t, digits, full-1, 0, 1)
		sameTurn(t, digits, full-1, full-1, 0)
		sameTurn(t, digits, full-1, full-2, full-1)
		sameTurn(t, digits, full-10, 5, 15)
		sameTurn(t, digits, 5, full-10, full-15)
	}
}

func TestMeterTurnRefused(t *testing.T) {
	for _, n := range beside(3, 7) {
		sameTurn(t, n, 0, 0, -1)
		sameTurn(t, n, 1, 5, -1)
		sameTurn(t, n, 5, 1, -1)
	}
	for digits, full := range fulls() {
		for _, n := range beside(0, full-1) {
			sameTurn(t, digits, n, 5, -1)
			sameTurn(t, digits, 5, n, -1)
			sameTurn(t, digits, n, n, -1)
		}
		sameTurn(t, digits, -1, full, -1)
		sameTurn(t, digits, full, -1, -1)
	}
}

// metering is a read of a meter and what it tells.
type metering struct {
	what                      string
	meter                     impl.Meter
	day, shows                int64
	water, kind, usual, stays int64
}

func sameMetering(t *testing.T, list []metering) {
	t.Helper()
	for _, c := range list {
		behind := impl.Meter{Digits: c.meter.Digits, Usual: c.usual, Day: c.day, Shows: c.stays}
		use := impl.Use{From: c.meter.Day, To: c.day, Water: c.water, Kind: c.kind}
		sameMeter(t, "MeterRead, "+c.what, impl.MeterRead(c.meter, impl.Read{Day: c.day, Shows: c.shows}), readAt(behind, use))
	}
}

// TestMeterReadSeen: ten days of a gauge's Usual are 300.
func TestMeterReadSeen(t *testing.T) {
	sameMetering(t, []metering{
		{"as usual", gauge(), 110, 9800, 300, impl.ReadGood, 30, 9800},
		{"up to its nines", gauge(), 110, 9999, 499, impl.ReadGood, 34, 9999},
		{"just over", gauge(), 110, 0, 500, impl.ReadGood, 35, 0},
		{"5 times u", gauge(), 110, 1000, 1500, impl.ReadGood, 60, 1000},
		{"one above 5 times u", gauge(), 110, 1001, 1501, impl.ReadGood, 60, 1001},
		{"5 times u and 100", gauge(), 110, 1100, 1600, impl.ReadGood, 62, 1100},
		{"one more", gauge(), 110, 1101, 1601, impl.ReadHigh, 30, 1101},
		{"nearly round", gauge(), 110, 9499, 9999, impl.ReadHigh, 30, 9499},
		{"a tenth of u", gauge(), 110, 9530, 30, impl.ReadGood, 23, 9530},
		{"one less", gauge(), 110, 9529, 29, impl.ReadLow, 30, 9529},
		{"nothing ran", gauge(), 110, 9500, 0, impl.ReadLow, 30, 9500},
		{"a day", gauge(), 101, 9503, 3, impl.ReadGood, 23, 9503},
		{"a day, one less", gauge(), 101, 9502, 2, impl.ReadLow, 30, 9502},
		{"a day, the most", gauge(), 101, 9750, 250, impl.ReadGood, 85, 9750},
		{"a day, one more", gauge(), 101, 9751, 251, impl.ReadHigh, 30, 9751},
		{"to the last day", gauge(), impl.MaxDays, 9499, 9999, impl.ReadLow, 30, 9499},
	})
}

func TestMeterReadUsual(t *testing.T) {
	idle := impl.Meter{Digits: 3, Shows: 950}
	busy := impl.Meter{Digits: 7, Usual: 10000, Day: 7, Shows: 9999000}
	some := impl.Meter{Digits: 5, Usual: 7, Day: 7, Shows: 5}
	all := impl.Meter{Digits: 7, Usual: 10000, Shows: 1}
	sameMetering(t, []metering{
		{"none, nothing ran", idle, 1, 950, 0, impl.ReadGood, 0, 950},
		{"none, too little for one", idle, 10, 989, 39, impl.ReadGood, 0, 989},
		{"none, just enough", idle, 10, 990, 40, impl.ReadGood, 1, 990},
		{"none, 100", idle, 10, 50, 100, impl.ReadGood, 2, 50},
		{"none, 101", idle, 10, 51, 101, impl.ReadHigh, 0, 51},
		{"the water of a day, not all of it", some, 10, 43, 38, impl.ReadGood, 8, 43},
		{"rounded down", some, 10, 37, 32, impl.ReadGood, 7, 37},
		{"just the next one", some, 10, 40, 35, impl.ReadGood, 8, 40},
		{"the most, as usual", busy, 8, 9000, 10000, impl.ReadGood, 10000, 9000},
		{"the most, one less", busy, 8, 8999, 9999, impl.ReadGood, 9999, 8999},
		{"the most, a little more", busy, 8, 9003, 10003, impl.ReadGood, 10000, 9003},
		{"no more than the most", busy, 8, 9004, 10004, impl.ReadGood, 10000, 9004},
		{"far above the most", busy, 8, 49100, 50100, impl.ReadGood, 10000, 49100},
		{"too far", busy, 8, 49101, 50101, impl.ReadHigh, 10000, 49101},
		{"no days are too many", all, impl.MaxDays, 0, 9999999, impl.ReadLow, 10000, 0},
	})
}

func TestMeterReadByNobody(t *testing.T) {
	three := func(usual int64, shows int64) impl.Meter {
		return impl.Meter{Digits: 3, Usual: usual, Day: 10, Shows: shows}
	}
	most := impl.Meter{Digits: 7, Usual: 10000, Shows: 9999999}
	sameMetering(t, []metering{
		{"a guess", gauge(), 110, -1, 300, impl.ReadGuess, 30, 9800},
		{"a guess over full", gauge(), 120, -1, 600, impl.ReadGuess, 30, 100},
		{"up to the nines", three(33, 900), 13, -1, 99, impl.ReadGuess, 33, 999},
		{"just over", three(20, 900), 15, -1, 100, impl.ReadGuess, 20, 0},
		{"one more", three(101, 900), 11, -1, 101, impl.ReadGuess, 101, 1},
		{"once round", three(1000, 900), 11, -1, 1000, impl.ReadGuess, 1000, 900},
		{"over more than once", three(7, 500), 343, -1, 2331, impl.ReadGuess, 7, 831},
		{"no Usual", three(0, 500), 343, -1, 0, impl.ReadGuess, 0, 500},
		{"as often as can be", impl.Meter{Digits: 3, Usual: 10000, Shows: 999}, impl.MaxDays, -1, impl.MaxWater, impl.ReadGuess, 10000, 999},
		{"as much as can be", most, impl.MaxDays, -1, impl.MaxWater, impl.ReadGuess, 10000, 9999999},
		{"as much as can be, less a day", most, impl.MaxDays - 1, -1, impl.MaxWater - 10000, impl.ReadGuess, 10000, 9989999},
	})
}

// wrongReads are refused of a gauge, for what their names say.
func wrongReads() map[string]impl.Read {
	wrong := map[string]impl.Read{
		"none":                  {},
		"the Day of the meter":  {Day: 100, Shows: 9600},
		"a guess of that Day":   {Day: 100, Shows: -1},
		"a Day ahead of it":     {Day: 99, Shows: 9600},
		"a guess ahead of it":   {Day: 99, Shows: -1},
		"a guess behind all":    {Day: impl.MaxDays + 1, Shows: -1},
		"wrong by both of them": {Day: 100, Shows: 10000},
	}
	for what, n := range beside(0, impl.MaxDays) {
		wrong["Day is "+what] = impl.Read{Day: n, Shows: 9600}
	}
	for _, n := range []int64{-2, 10000, 10001, 99999, 1 << 32, math.MinInt64, math.MaxInt64} {
		wrong["Shows is "+decimal(n)] = impl.Read{Day: 110, Shows: n}
	}
	return wrong
}

func TestMeterReadForm(t *testing.T) {
	for what, m := range wrongMeters() {
		for _, read := range []impl.Read{{Day: 110, Shows: 5}, {Day: 110, Shows: -1}, {Day: m.Day, Shows: -2}, {Day: impl.MaxDays, Shows: 999}} {
			sameMeter(t, what, impl.MeterRead(m, read), meterFault(impl.ErrForm))
		}
	}
	for what, read := range wrongReads() {
		sameMeter(t, what, impl.MeterRead(gauge(), read), meterFault(impl.ErrForm))
	}
	for digits, full := range fulls() {
		m := impl.Meter{Digits: digits, Day: 3}
		sameMeter(t, "full", impl.MeterRead(m, impl.Read{Day: 4, Shows: full}), meterFault(impl.ErrForm))
		if out := impl.MeterRead(m, impl.Read{Day: 4, Shows: full - 1}); out.Code != impl.OK || out.Meter.Shows != full-1 {
			t.Errorf("one below full of %d digits: got %+v", digits, out)
		}
	}
	late := impl.Meter{Digits: 3, Day: impl.MaxDays}
	for _, day := range []int64{0, impl.MaxDays - 1, impl.MaxDays, impl.MaxDays + 1, math.MaxInt64} {
		sameMeter(t, "behind the last day", impl.MeterRead(late, impl.Read{Day: day}), meterFault(impl.ErrForm))
	}
}

// plainRead says chapter 16 by numbers that know no limit, with other brackets and quotients.
func plainRead(m impl.Meter, r impl.Read) (impl.Meter, impl.Use) {
	full, days := fulls()[m.Digits], r.Day-m.Day
	use := impl.Use{From: m.Day, To: r.Day}
	if r.Shows == -1 {
		use.Water, use.Kind = m.Usual*days, 4
		over := share(m.Shows+use.Water, 1, full)
		return impl.Meter{Digits: m.Digits, Usual: m.Usual, Day: r.Day, Shows: m.Shows + use.Water - over*full}, use
	}
	use.Water, use.Kind = r.Shows-m.Shows, 1
	if r.Shows < m.Shows {
		use.Water = full - m.Shows + r.Shows
	}
	usual := share(3*m.Usual*days+use.Water, 1, 4*days)
	switch {
	case use.Water-100 > 5*m.Usual*days:
		usual, use.Kind = m.Usual, 2
	case m.Usual*days > 10*use.Water:
		usual, use.Kind = m.Usual, 3
	case usual > 10000:
		usual = 10000
	}
	return impl.Meter{Digits: m.Digits, Usual: usual, Day: r.Day, Shows: r.Shows}, use
}

func anyMeter(random *rand.Rand) impl.Meter {
	digits := 3 + random.Int63n(5)
	return impl.Meter{
		Digits: digits,
		Usual:  anyNumber(random, []int64{20, 300, 10000}[random.Intn(3)]),
		Day:    random.Int63n(impl.MaxDays / 2),
		Shows:  anyNumber(random, fulls()[digits]-1),
	}
}

// anyRead is about a meter's usual water, or anywhere, or nobody's.
func anyRead(random *rand.Rand, m impl.Meter) impl.Read {
	full := fulls()[m.Digits]
	days := 1 + random.Int63n([]int64{1, 10, 400}[random.Intn(3)])
	usual := m.Usual * days
	shows := int64(-1)
	switch random.Intn(8) {
	case 0:
	case 1:
		shows = random.Int63n(full)
	case 2:
		shows = (m.Shows + 5*usual + 99 + random.Int63n(4)) % full
	case 3:
		shows = (m.Shows + max(0, usual/10-1+random.Int63n(3))) % full
	default:
		shows = (m.Shows + random.Int63n(2*usual+10)) % full
	}
	return impl.Read{Day: m.Day + days, Shows: shows}
}

func TestMeterReadOfAny(t *testing.T) {
	random := rand.New(rand.NewSource(151))
	seen := map[int64]int{}
	for range 20000 {
		m := anyMeter(random)
		read := anyRead(random, m)
		behind, use := plainRead(m, read)
		sameMeter(t, "any", impl.MeterRead(m, read), readAt(behind, use))
		if t.Failed() {
			t.Fatalf("of %+v, %+v", m, read)
		}
		seen[use.Kind]++
	}
	for kind := int64(impl.ReadGood); kind <= impl.ReadGuess; kind++ {
		if seen[kind] < 1000 {
			t.Errorf("%v: too few of kind %d to tell", seen, kind)
		}
	}
}

func TestMeterReadIsNew(t *testing.T) {
	read := impl.Read{Day: 110, Shows: 9800}
	want := impl.MeterRead(gauge(), read)
	out := impl.MeterRead(gauge(), read)
	out.Uses[0] = impl.Use{}
	sameMeter(t, "behind a spoilt answer", impl.MeterRead(gauge(), read), want)
}
