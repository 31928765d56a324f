package tests

import (
	"maps"
	"math/rand"
	"slices"
	"strconv"
	"strings"
	"testing"

	"loop.example/g00068/impl"
)

// plainTown is a store and the days since it came to be.
type plainTown struct {
	store impl.Store
	ins   []int64
	wants []int64
}

// plainHome is a meter as it came to be, all reads of it, how many of these are billed, and all entries.
type plainHome struct {
	meter   impl.Meter
	reads   []impl.Read
	billed  int
	entries []impl.Entry
}

// plainDesk keeps what was asked for, not what came of it: that is reckoned from the beginning on at each line, by the runs
// of the chapters.
type plainDesk struct {
	stores  map[string]plainTown
	homes   map[string]plainHome
	tariffs []impl.Tariff
	plans   []impl.Plan
	links   []impl.Station
	events  []impl.Event
	alarms  []impl.Alarm
	acts    []impl.Act
}

func newPlainDesk() *plainDesk {
	return &plainDesk{stores: map[string]plainTown{}, homes: map[string]plainHome{}}
}

func wentWrong(code int64) string {
	return "error " + decimal(code)
}

// okIf does what is to be done where the code is OK.
func okIf(code int64, do func()) string {
	if code != impl.OK {
		return wentWrong(code)
	}
	do()
	return "ok"
}

func formOnly(right bool) int64 {
	if right {
		return impl.OK
	}
	return impl.ErrForm
}

func (d *plainDesk) answer(line string) string {
	words := strings.Split(line, " ")
	var n []int64
	for _, word := range words[1:] {
		if number, err := strconv.ParseInt(word, 10, 64); err == nil {
			n = append(n, number)
		}
	}
	switch words[0] {
	case "store", "day":
		return d.ofStores(words[0], words[1], n)
	case "meter", "read", "bill", "pay":
		return d.ofHomes(words[0], words[1], n)
	case "tariff":
		tariff := impl.Tariff{Day: n[0], Sewage: n[1], Tax: n[2], Blocks: []impl.Block{{Price: n[3]}}}
		return okIf(formOnly(impl.TariffRight(tariff)), func() { d.tariffs = append(d.tariffs, tariff) })
	case "places", "source", "row", "shut":
		return d.ofPlans(words[0], n)
	case "link", "note", "poll":
		return d.ofLinks(words[0], n)
	case "alarm", "value", "see", "shelve":
		return d.ofAlarms(words[0], n)
	}
	return plainFracs(n)
}

func plainFracs(n []int64) string {
	first, second := impl.FracOf(n[0], n[1]), impl.FracOf(n[2], n[3])
	if first.Code != impl.OK {
		return wentWrong(first.Code)
	}
	if second.Code != impl.OK {
		return wentWrong(second.Code)
	}
	sum := impl.FracAdd(first.F, second.F)
	if sum.Code != impl.OK {
		return wentWrong(sum.Code)
	}
	return impl.FracText(sum.F)
}

// townCode is the first fault of a new one.
func townCode(known bool, right bool, count int) int64 {
	switch {
	case known:
		return impl.ErrState
	case !right:
		return impl.ErrForm
	case count+1 > impl.MaxTowns:
		return impl.ErrOver
	}
	return impl.OK
}

func (d *plainDesk) ofStores(word string, name string, n []int64) string {
	town, known := d.stores[name]
	if word == "store" {
		curve := []impl.Mark{{Level: 0, Volume: 0}, {Level: 100, Volume: n[0]}}
		store := impl.Store{Curve: curve, Rules: []impl.Rule{{From: 0, Give: 1000}}, Volume: n[1]}
		return okIf(townCode(known, impl.StoreRight(store), len(d.stores)), func() { d.stores[name] = plainTown{store: store} })
	}
	if !known {
		return wentWrong(impl.ErrState)
	}
	ahead := impl.StoreRun(town.store, town.ins, town.wants)
	town.ins, town.wants = append(town.ins, n[0]), append(town.wants, n[1])
	behind := impl.StoreRun(town.store, town.ins, town.wants)
	if behind.Code != impl.OK {
		return wentWrong(behind.Code)
	}
	d.stores[name] = town
	return "given " + decimal(behind.Given-ahead.Given) + " spill " + decimal(behind.Spill-ahead.Spill) +
		" short " + decimal(behind.Short-ahead.Short) + " volume " + decimal(behind.Volume)
}

// readAll goes one by one, since there may be more reads than MeterRun takes.
func readAll(meter impl.Meter, reads []impl.Read) impl.MeterOut {
	out := impl.MeterOut{Meter: meter}
	for _, read := range reads {
		one := impl.MeterRead(out.Meter, read)
		if one.Code != impl.OK {
			return one
		}
		out = impl.MeterOut{Meter: one.Meter, Uses: append(out.Uses, one.Uses...)}
	}
	return out
}

func (d *plainDesk) ofHomes(word string, name string, n []int64) string {
	home, known := d.homes[name]
	if word == "meter" {
		meter := impl.Meter{Digits: n[0], Usual: n[1], Day: n[2], Shows: n[3]}
		return okIf(townCode(known, impl.MeterRight(meter), len(d.homes)), func() { d.homes[name] = plainHome{meter: meter} })
	}
	if !known || word == "bill" && len(d.tariffs) == 0 {
		return wentWrong(impl.ErrState)
	}
	answer, code := "", int64(impl.OK)
	switch word {
	case "read":
		answer, code = home.read(impl.Read{Day: n[0], Shows: n[1]})
	case "bill":
		answer, code = home.bill(d.tariffs[len(d.tariffs)-1], n[0])
	default:
		answer, code = home.pay(n[0])
	}
	if code != impl.OK {
		return wentWrong(code)
	}
	d.homes[name] = home
	return answer
}

func (h *plainHome) read(read impl.Read) (string, int64) {
	h.reads = append(h.reads, read)
	out := readAll(h.meter, h.reads)
	if out.Code != impl.OK {
		return "", out.Code
	}
	use := out.Uses[len(out.Uses)-1]
	return "water " + decimal(use.Water) + " kind " + decimal(use.Kind), impl.OK
}

func (h *plainHome) bill(tariff impl.Tariff, days int64) (string, int64) {
	water := int64(0)
	for _, use := range readAll(h.meter, h.reads).Uses[h.billed:] {
		water += use.Water
	}
	bill := impl.BillMake(tariff, days, water)
	if bill.Code != impl.OK {
		return "", bill.Code
	}
	if bill.Gross > 0 {
		h.entries = append(h.entries, impl.Entry{Kind: impl.EntryBill, Money: bill.Gross})
	}
	h.billed = len(h.reads)
	return "gross " + decimal(bill.Gross), impl.AccountRun(h.entries).Code
}

func (h *plainHome) pay(money int64) (string, int64) {
	h.entries = append(h.entries, impl.Entry{Kind: impl.EntryPay, Money: money})
	account := impl.AccountRun(h.entries)
	open := int64(0)
	for _, left := range account.Open {
		open += left
	}
	return "open " + decimal(open) + " credit " + decimal(account.Credit), account.Code
}

func (d *plainDesk) ofPlans(word string, n []int64) string {
	if word == "places" {
		plan := impl.Plan{Homes: n}
		return okIf(formOnly(impl.PlanRight(plan)), func() { d.plans = append(d.plans, plan) })
	}
	if len(d.plans) == 0 {
		return wentWrong(impl.ErrState)
	}
	last := &d.plans[len(d.plans)-1]
	plan := *last
	switch word {
	case "row":
		plan.Rows = append(slices.Clone(plan.Rows), impl.Row{From: n[0], To: n[1], Valve: n[2]})
		return okIf(formOnly(impl.PlanRight(plan)), func() { *last = plan })
	case "source":
		places := map[int64]bool{n[0]: true}
		for _, place := range plan.Sources {
			places[place] = true
		}
		plan.Sources = slices.Sorted(maps.Keys(places))
		return okIf(formOnly(impl.PlanRight(plan)), func() { *last = plan })
	}
	shut := impl.LeastShut(plan, n[0])
	if shut.Code != impl.OK {
		return wentWrong(shut.Code)
	}
	told := "rows "
	for _, row := range shut.Rows {
		told += decimal(row) + " "
	}
	return told + "homes " + decimal(shut.Homes)
}

func (d *plainDesk) ofLinks(word string, n []int64) string {
	if word == "link" {
		station := impl.Station{Unit: n[0], Band: n[1], Next: 1}
		return okIf(formOnly(impl.StationRight(station)), func() { d.links, d.events = append(d.links, station), nil })
	}
	if len(d.links) == 0 {
		return wentWrong(impl.ErrState)
	}
	kind := int64(impl.EventValue)
	if word == "poll" {
		kind = impl.EventPoll
	}
	station := d.links[len(d.links)-1]
	events := append(slices.Clone(d.events), impl.Event{Kind: kind, Value: n[0]})
	run := impl.LinkRun(station.Unit, station.Band, events)
	if run.Code != impl.OK {
		return wentWrong(run.Code)
	}
	d.events = events
	if word == "note" {
		return "waits " + decimal(int64(len(run.Station.Wait)))
	}
	return "notes " + decimal(int64(len(run.Master.Notes))) + " gaps " + decimal(run.Master.Gaps)
}

func (d *plainDesk) ofAlarms(word string, n []int64) string {
	if word == "alarm" {
		alarm := impl.Alarm{High: n[0], Low: n[1], Delay: n[2], State: impl.AlarmRest}
		return okIf(formOnly(impl.AlarmRight(alarm)), func() { d.alarms, d.acts = append(d.alarms, alarm), nil })
	}
	if len(d.alarms) == 0 {
		return wentWrong(impl.ErrState)
	}
	act := impl.Act{Kind: impl.ActSee}
	switch word {
	case "value":
		act = impl.Act{Kind: impl.ActValue, Value: n[0]}
	case "shelve":
		act = impl.Act{Kind: impl.ActShelve, Value: n[0]}
	}
	d.acts = append(d.acts, act)
	return "state " + decimal(impl.AlarmRun(d.alarms[len(d.alarms)-1], d.acts).Alarm.State)
}

func someNumber(random *rand.Rand, least int64, most int64) string {
	switch random.Intn(30) {
	case 0:
		return decimal(anyNumber(random, impl.MaxFlow))
	case 1:
		return decimal(max(least, 0))
	}
	return decimal(least + random.Int63n(most-least+1))
}

// deskTalk is about so many names, and goes on along its days, so that reads are mostly of later ones.
type deskTalk struct {
	random *rand.Rand
	names  int64
	day    int64
	shows  int64
}

func (s *deskTalk) number(least int64, most int64) string {
	return " " + someNumber(s.random, least, most)
}

// line is one of the word, mostly of numbers by which something is done.
func (s *deskTalk) line(word string) string {
	name := " n" + decimal(s.random.Int63n(s.names))
	switch word {
	case "store":
		return word + name + s.number(0, 300) + s.number(0, 100)
	case "day":
		return word + name + s.number(0, 200) + s.number(0, 200)
	case "meter":
		return word + name + s.number(3, 7) + s.number(0, 50) + s.number(0, 20) + s.number(0, 999)
	case "read":
		s.day += s.random.Int63n(4)
		s.shows = (s.shows + s.random.Int63n(200)) % 1000
		shows := " " + decimal(s.shows)
		if s.random.Intn(6) == 0 {
			shows = s.number(-2, 0)
		}
		return word + name + s.number(s.day, s.day+5) + shows
	case "tariff":
		return word + s.number(0, 30) + s.number(0, 210) + s.number(0, 105) + s.number(0, 30)
	case "bill":
		return word + name + s.number(0, 90)
	case "pay":
		return word + name + s.number(0, 5000)
	case "frac":
		return word + s.number(-9, 9) + s.number(0, 9) + s.number(-9, 9) + s.number(0, 9)
	}
	return s.otherLine(word)
}

func (s *deskTalk) otherLine(word string) string {
	switch word {
	case "places":
		line := word
		for range 2 + s.random.Intn(6) {
			line += s.number(0, 20)
		}
		return line
	case "source", "shut":
		return word + s.number(0, 6)
	case "row":
		return word + s.number(0, 5) + s.number(0, 5) + s.number(0, 2)
	case "link":
		return word + s.number(0, 255) + s.number(0, 6)
	case "note":
		return word + s.number(-20, 20)
	case "poll":
		return word + s.number(0, 3)
	case "alarm":
		return word + s.number(0, 10) + s.number(-10, 5) + s.number(0, 3)
	case "value":
		return word + s.number(-20, 20)
	case "shelve":
		return word + s.number(0, 4)
	}
	return word
}

// anyTalk has no new thing in most of its lines, and often goes on about some words alone.
func anyTalk(random *rand.Rand) []string {
	names := []int64{1, 1, 3, 3, 40}[random.Intn(5)]
	if names > impl.MaxTowns {
		return talkAbout(random, names, []string{"store"}, []string{"meter"}, []string{"store", "meter", "day", "read"})
	}
	words := impl.DeskWords()
	return talkAbout(random, names,
		words, words, []string{"store", "day"}, []string{"meter", "read", "bill", "pay", "tariff"}, []string{"read", "bill", "pay"},
		[]string{"places", "row", "source", "shut"}, []string{"row", "shut"}, []string{"note", "poll"}, []string{"value", "see", "shelve"},
		[]string{"alarm", "value", "see", "shelve", "value"})
}

func talkAbout(random *rand.Rand, names int64, about ...[]string) []string {
	s := &deskTalk{random: random, names: names}
	var list []string
	for _, word := range []string{"store", "meter", "tariff", "places", "link", "alarm"} {
		if random.Intn(5) > 0 {
			list = append(list, s.line(word))
		}
	}
	count := 1 + random.Intn(impl.MaxLines)
	for len(list) < count {
		some := about[random.Intn(len(about))]
		for range 1 + random.Intn(12) {
			list = append(list, s.line(some[random.Intn(len(some))]))
		}
	}
	return list[:min(len(list), impl.MaxLines)]
}

// tellOf is what each line told.
func tellOf(t *testing.T, list []string) []string {
	t.Helper()
	out := impl.DeskRun(lines(list...))
	if out.Code != impl.OK || out.Line != 0 {
		t.Fatalf("got Code %d, Line %d, of %q", out.Code, out.Line, list)
	}
	told := strings.SplitAfter(out.Text, "\n")
	if len(told) != len(list)+1 || told[len(list)] != "" {
		t.Fatalf("%d lines told of %d: %q", len(told)-1, len(list), out.Text)
	}
	for i := range told {
		told[i] = strings.TrimSuffix(told[i], "\n")
	}
	return told[:len(list)]
}

// TestPromise40Chapters: each line tells what the chapters' runs tell of all that was asked for up to it.
func TestPromise40Chapters(t *testing.T) {
	random := rand.New(rand.NewSource(251))
	counts := map[string]int{}
	for range 1500 {
		list := anyTalk(random)
		plain := newPlainDesk()
		for i, got := range tellOf(t, list) {
			want := plain.answer(list[i])
			if got != want {
				t.Fatalf("line %d, %s: got %q, want %q, of %q", i, list[i], got, want, list[:i+1])
			}
			word, _, _ := strings.Cut(list[i], " ")
			if code, wrong := strings.CutPrefix(got, "error"); wrong {
				counts[word+code]++
			} else {
				counts[word]++
			}
		}
	}
	for _, kind := range []string{
		"store", "store 1", "store 9", "store 5", "day", "day 9", "meter", "meter 1", "meter 9", "meter 5", "read", "read 1", "read 9", "tariff", "tariff 1",
		"bill", "bill 9", "bill 1", "pay", "pay 1", "pay 9", "places", "source", "source 1", "source 9", "row", "row 1", "row 9", "shut", "shut 1", "shut 4", "shut 9",
		"link", "link 1", "note", "note 9", "poll", "poll 1", "poll 9", "alarm", "alarm 1", "value", "value 9", "see", "see 9", "shelve", "shelve 9",
		"frac", "frac 1",
	} {
		if counts[kind] < 10 {
			t.Errorf("%s: %d, too few to tell", kind, counts[kind])
		}
	}
}

// TestPromise40WrongChangesNothing: without the lines that went wrong, the others tell the same.
func TestPromise40WrongChangesNothing(t *testing.T) {
	random := rand.New(rand.NewSource(252))
	left := 0
	for range 1000 {
		list := anyTalk(random)
		told := tellOf(t, list)
		var good, answers []string
		for i, answer := range told {
			if !strings.HasPrefix(answer, "error ") {
				good, answers = append(good, list[i]), append(answers, answer)
			}
		}
		if again := tellOf(t, good); !slices.Equal(again, answers) {
			t.Fatalf("got %q, want %q, of %q", again, answers, good)
		}
		left += len(list) - len(good)
	}
	if left < 5000 {
		t.Errorf("%d lines went wrong: too few to tell", left)
	}
}

// TestPromise40WrongAgain: what went wrong goes wrong again, with the same code, and what follows is as without it.
func TestPromise40WrongAgain(t *testing.T) {
	random := rand.New(rand.NewSource(253))
	for range 1000 {
		var twice, answers []string
		list := anyTalk(random)
		told := tellOf(t, list)
		for i, answer := range told {
			count := 1
			if strings.HasPrefix(answer, "error ") {
				count += random.Intn(3)
			}
			twice = append(twice, slices.Repeat(list[i:i+1], count)...)
			answers = append(answers, slices.Repeat([]string{answer}, count)...)
		}
		most := min(len(twice), impl.MaxLines)
		if got := tellOf(t, twice[:most]); !slices.Equal(got, answers[:most]) {
			t.Fatalf("got %q, want %q, of %q", got, answers[:most], twice[:most])
		}
	}
}

// TestPromise40LineForLine: of fewer lines as much less is told, and no more.
func TestPromise40LineForLine(t *testing.T) {
	random := rand.New(rand.NewSource(254))
	for range 300 {
		list := anyTalk(random)
		told := tellOf(t, list)
		for range 10 {
			count := random.Intn(len(list) + 1)
			if got := tellOf(t, list[:count]); !slices.Equal(got, told[:count]) {
				t.Fatalf("got %q, want %q, of %q", got, told[:count], list[:count])
			}
		}
	}
}

// moneyTold are the numbers of an answer.
func moneyTold(answer string) []int64 {
	var list []int64
	for _, word := range strings.Fields(answer) {
		if n, err := strconv.ParseInt(word, 10, 64); err == nil {
			list = append(list, n)
		}
	}
	return list
}

// TestPromise40Money: what is open less what is credit is what was billed less what was paid.
func TestPromise40Money(t *testing.T) {
	random := rand.New(rand.NewSource(255))
	pays := 0
	for range 1000 {
		list := talkAbout(random, 2, []string{"read", "bill", "pay", "pay"}, []string{"meter", "tariff"})
		owed := map[string]int64{}
		for i, answer := range tellOf(t, list) {
			if strings.HasPrefix(answer, "error ") {
				continue
			}
			words := strings.Split(list[i], " ")
			switch words[0] {
			case "bill":
				owed[words[1]] += moneyTold(answer)[0]
			case "pay":
				owed[words[1]] -= moneyTold(list[i])[0]
				told := moneyTold(answer)
				if told[0]-told[1] != owed[words[1]] || told[0] > 0 && told[1] > 0 {
					t.Fatalf("%s: got %q, owed %d, of %q", list[i], answer, owed[words[1]], list[:i+1])
				}
				pays++
			}
		}
	}
	if pays < 2000 {
		t.Errorf("%d payments: too few to tell", pays)
	}
}

// TestPromise40Apart: lines about other things may stand between, and nothing else is told.
func TestPromise40Apart(t *testing.T) {
	random := rand.New(rand.NewSource(256))
	// Those of one place have to do with each other.
	group := map[string]int{
		"store": 0, "day": 0, "meter": 1, "read": 1, "bill": 1, "pay": 1, "tariff": 1, "places": 2, "source": 2, "row": 2, "shut": 2,
		"link": 3, "note": 3, "poll": 3, "alarm": 4, "value": 4, "see": 4, "shelve": 4, "frac": 5,
	}
	for range 300 {
		list := anyTalk(random)
		told := tellOf(t, list)
		for of := range 6 {
			var alone, answers []string
			for i, line := range list {
				word, _, _ := strings.Cut(line, " ")
				if group[word] == of {
					alone, answers = append(alone, line), append(answers, told[i])
				}
			}
			if got := tellOf(t, alone); !slices.Equal(got, answers) {
				t.Fatalf("got %q, want %q, of %q", got, answers, alone)
			}
		}
	}
}
