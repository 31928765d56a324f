package tests

import (
	"math"
	"math/rand"
	"slices"
	"testing"

	"loop.example/g00068/impl"
)

func billOf(money int64) impl.Entry {
	return impl.Entry{Kind: impl.EntryBill, Money: money}
}

func payOf(money int64) impl.Entry {
	return impl.Entry{Kind: impl.EntryPay, Money: money}
}

func backOf(money int64) impl.Entry {
	return impl.Entry{Kind: impl.EntryBack, Money: money}
}

func accountFault(code int64) impl.Account {
	return impl.Account{Code: code}
}

func standingAt(credit int64, paid int64, open ...int64) impl.Account {
	return impl.Account{Open: open, Credit: credit, Paid: paid}
}

func sameAccount(t *testing.T, what string, got impl.Account, want impl.Account) {
	t.Helper()
	if !slices.Equal(got.Open, want.Open) || got.Credit != want.Credit || got.Paid != want.Paid || got.Code != want.Code {
		t.Errorf("%s: got %+v, want %+v", what, got, want)
	}
}

// sameAccountRun calls with entries of its own, with room behind them, and tells if these were changed.
func sameAccountRun(t *testing.T, what string, list []impl.Entry, want impl.Account) {
	t.Helper()
	what = "AccountRun, " + what
	behind := impl.Entry{Kind: -7, Money: -7}
	given := slices.Concat(list, []impl.Entry{behind})
	own := given[:len(list)]
	if list == nil {
		own = nil
	}
	sameAccount(t, what, impl.AccountRun(own), want)
	if !slices.Equal(given[:len(list)], list) || given[len(list)] != behind {
		t.Errorf("%s: the entries were changed", what)
	}
}

// cashbook has entries of each kind, and is told entry by entry by TestAccountRunByHand.
func cashbook() []impl.Entry {
	return []impl.Entry{
		payOf(30), billOf(100), billOf(50), billOf(20), payOf(70), payOf(60), payOf(25),
		backOf(5), billOf(4), billOf(6), billOf(8), payOf(13), backOf(1), backOf(3),
	}
}

func TestAccountRunByHand(t *testing.T) {
	behind := []impl.Account{
		standingAt(0, 0),
		standingAt(30, 30),
		standingAt(0, 30, 70),
		standingAt(0, 30, 70, 50),
		standingAt(0, 30, 70, 50, 20),
		standingAt(0, 100, 50, 20),
		standingAt(0, 160, 10),
		standingAt(15, 185),
		standingAt(10, 180),
		standingAt(6, 180),
		standingAt(0, 180),
		standingAt(0, 180, 8),
		standingAt(5, 193),
		standingAt(4, 192),
		standingAt(1, 189),
	}
	for count, want := range behind {
		sameAccountRun(t, "behind "+decimal(int64(count)), cashbook()[:count], want)
	}
}

func TestAccountRunEdges(t *testing.T) {
	sameAccountRun(t, "none, nil", nil, standingAt(0, 0))
	sameAccountRun(t, "none", []impl.Entry{}, standingAt(0, 0))
	for _, c := range []struct {
		what string
		list []impl.Entry
		want impl.Account
	}{
		{"a bill", []impl.Entry{billOf(1)}, standingAt(0, 0, 1)},
		{"a payment", []impl.Entry{payOf(1)}, standingAt(1, 1)},
		{"paid just so", []impl.Entry{billOf(9), payOf(9)}, standingAt(0, 9)},
		{"paid one too little", []impl.Entry{billOf(9), payOf(8)}, standingAt(0, 8, 1)},
		{"paid one too much", []impl.Entry{billOf(9), payOf(10)}, standingAt(1, 10)},
		{"credit just so", []impl.Entry{payOf(9), billOf(9)}, standingAt(0, 9)},
		{"credit one too little", []impl.Entry{payOf(8), billOf(9)}, standingAt(0, 8, 1)},
		{"credit one too much", []impl.Entry{payOf(10), billOf(9)}, standingAt(1, 10)},
		{"two at once", []impl.Entry{billOf(2), billOf(3), payOf(5)}, standingAt(0, 5)},
		{"the eldest, just so", []impl.Entry{billOf(2), billOf(3), payOf(2)}, standingAt(0, 2, 3)},
		{"the eldest, though greater", []impl.Entry{billOf(9), billOf(3), payOf(3)}, standingAt(0, 3, 6, 3)},
		{"the eldest in parts", []impl.Entry{billOf(9), billOf(3), payOf(3), payOf(3), payOf(4)}, standingAt(0, 10, 2)},
		{"a new one behind a part", []impl.Entry{billOf(9), payOf(3), billOf(5)}, standingAt(0, 3, 6, 5)},
		{"all credit back", []impl.Entry{payOf(9), backOf(9)}, standingAt(0, 0)},
		{"a part of it", []impl.Entry{payOf(9), backOf(8)}, standingAt(1, 1)},
		{"credit of two payments", []impl.Entry{payOf(4), payOf(5), backOf(9)}, standingAt(0, 0)},
		{"the rest of a payment", []impl.Entry{billOf(6), payOf(9), backOf(3)}, standingAt(0, 6)},
		{"the most", []impl.Entry{billOf(impl.MaxMoney), payOf(impl.MaxMoney)}, standingAt(0, impl.MaxMoney)},
		{"the most, back", []impl.Entry{payOf(impl.MaxMoney), backOf(impl.MaxMoney)}, standingAt(0, 0)},
	} {
		sameAccountRun(t, c.what, c.list, c.want)
	}
}

func TestAccountRunState(t *testing.T) {
	for what, list := range map[string][]impl.Entry{
		"without a payment":     {backOf(1)},
		"of a bill":             {billOf(9), backOf(1)},
		"one too much":          {payOf(9), backOf(10)},
		"twice":                 {payOf(9), backOf(5), backOf(5)},
		"of what a bill took":   {payOf(9), billOf(1), backOf(9)},
		"of what paid a bill":   {billOf(9), payOf(9), backOf(1)},
		"the rest and one":      {billOf(6), payOf(9), backOf(4)},
		"the most":              {payOf(impl.MaxMoney), billOf(1), backOf(impl.MaxMoney)},
		"paid later":            {backOf(1), payOf(9)},
		"open bills, no credit": {billOf(9), billOf(9), payOf(10), backOf(1)},
	} {
		sameAccountRun(t, what, list, accountFault(impl.ErrState))
		sameAccountRun(t, what+", others behind", slices.Concat(list, cashbook()), accountFault(impl.ErrState))
	}
}

// wrongEntries are refused wherever they stand.
func wrongEntries() map[string]impl.Entry {
	wrong := map[string]impl.Entry{"none": {}, "Kind 0": {Money: 5}, "both wrong": {Kind: 4, Money: -1}}
	for what, n := range beside(impl.EntryBill, impl.EntryBack) {
		wrong["Kind is "+what] = impl.Entry{Kind: n, Money: 5}
	}
	for kind := int64(impl.EntryBill); kind <= impl.EntryBack; kind++ {
		wrong["no Money of Kind "+decimal(kind)] = impl.Entry{Kind: kind}
		for what, n := range beside(1, impl.MaxMoney) {
			wrong["Money of Kind "+decimal(kind)+" is "+what] = impl.Entry{Kind: kind, Money: n}
		}
	}
	return wrong
}

func TestAccountRunForm(t *testing.T) {
	for what, bad := range wrongEntries() {
		sameAccountRun(t, what+", alone", []impl.Entry{bad}, accountFault(impl.ErrForm))
		for place := range len(cashbook()) + 1 {
			list := slices.Insert(cashbook(), place, bad)
			sameAccountRun(t, what+", at "+decimal(int64(place)), list, accountFault(impl.ErrForm))
		}
	}
}

// TestAccountRunFirstFault: of two entries that are refused the first one tells the code.
func TestAccountRunFirstFault(t *testing.T) {
	for what, bad := range wrongEntries() {
		sameAccountRun(t, what+", then too much back", []impl.Entry{bad, backOf(1)}, accountFault(impl.ErrForm))
		sameAccountRun(t, what+", then too much back, later", []impl.Entry{payOf(5), bad, billOf(9), backOf(6)}, accountFault(impl.ErrForm))
		sameAccountRun(t, "too much back, then "+what, []impl.Entry{backOf(1), bad}, accountFault(impl.ErrState))
		sameAccountRun(t, "too much back, then later "+what, []impl.Entry{payOf(5), backOf(6), billOf(9), bad}, accountFault(impl.ErrState))
	}
}

func TestAccountRunSize(t *testing.T) {
	most := slices.Repeat([]impl.Entry{payOf(impl.MaxMoney)}, impl.MaxEntries)
	sameAccountRun(t, "MaxEntries of payments", most, standingAt(impl.MaxEntries*impl.MaxMoney, impl.MaxEntries*impl.MaxMoney))
	bills := slices.Repeat([]impl.Entry{billOf(impl.MaxMoney)}, impl.MaxEntries)
	sameAccountRun(t, "MaxEntries of bills", bills, standingAt(0, 0, numbers(impl.MaxMoney, impl.MaxEntries)...))
	for _, count := range []int{impl.MaxEntries + 1, impl.MaxList, impl.MaxList + 1} {
		for what, each := range map[string]impl.Entry{"bills": billOf(1), "payments": payOf(1), "all wrong": {}, "all back": backOf(1)} {
			sameAccountRun(t, "too many, "+what, slices.Repeat([]impl.Entry{each}, count), accountFault(impl.ErrSize))
		}
	}
	last := slices.Clone(most)
	last[impl.MaxEntries-1] = impl.Entry{Kind: impl.EntryPay}
	sameAccountRun(t, "MaxEntries, the last one wrong", last, accountFault(impl.ErrForm))
	last = slices.Clone(bills)
	last[impl.MaxEntries-1] = backOf(1)
	sameAccountRun(t, "MaxEntries, the last one too much back", last, accountFault(impl.ErrState))
}

// plainAccount goes by nothing but sums up to each entry: what was paid covers the eldest bills, and what is
// beyond all bills is credit.
func plainAccount(list []impl.Entry) impl.Account {
	var bills []int64
	paid, all := int64(0), int64(0)
	for _, e := range list {
		switch {
		case e.Kind < 1 || e.Kind > 3 || e.Money < 1 || e.Money > 1000000000:
			return accountFault(impl.ErrForm)
		case e.Kind == 1:
			bills, all = append(bills, e.Money), all+e.Money
		case e.Kind == 2:
			paid += e.Money
		case e.Money > max(0, paid-all):
			return accountFault(impl.ErrState)
		default:
			paid -= e.Money
		}
	}
	out := impl.Account{Credit: max(0, paid-all), Paid: paid}
	left := paid
	for _, money := range bills {
		if money > left {
			out.Open = append(out.Open, money-left)
		}
		left = max(0, left-money)
	}
	return out
}

// anyEntries are right ones; money goes back seldom, and seldom too much of it.
func anyEntries(random *rand.Rand, count int) []impl.Entry {
	great := []int64{5, 1000, impl.MaxMoney}[random.Intn(3)]
	owed, lean := int64(0), 1+random.Intn(9)
	list := make([]impl.Entry, count)
	for i := range list {
		money := max(1, anyNumber(random, great))
		switch {
		case owed < 0 && random.Intn(3) == 0:
			list[i] = backOf(1 + random.Int63n(min(impl.MaxMoney, -owed)))
			owed += list[i].Money
		case random.Intn(10) < lean:
			list[i] = billOf(money)
			owed += money
		default:
			if owed > 0 && owed <= impl.MaxMoney && random.Intn(4) == 0 {
				money = owed
			}
			list[i] = payOf(money)
			owed -= money
		}
	}
	return list
}

func TestAccountRunOfAny(t *testing.T) {
	random := rand.New(rand.NewSource(162))
	seen := map[string]int{}
	for range 20000 {
		list := anyEntries(random, random.Intn(impl.MaxEntries+1))
		if len(list) > 0 && random.Intn(4) == 0 {
			list[random.Intn(len(list))].Kind = random.Int63n(5)
		}
		if len(list) > 0 && random.Intn(4) == 0 {
			list[random.Intn(len(list))] = backOf(max(1, anyNumber(random, impl.MaxMoney)))
		}
		want := plainAccount(list)
		sameAccountRun(t, "any", list, want)
		if t.Failed() {
			t.Fatalf("of %+v", list)
		}
		seen["code "+decimal(want.Code)]++
		seen["open"] += min(1, len(want.Open)/2)
		seen["credit"] += int(min(1, want.Credit))
	}
	for _, what := range []string{"code 0", "code 1", "code 9", "open", "credit"} {
		if seen[what] < 1000 {
			t.Errorf("%v: too few of %s to tell", seen, what)
		}
	}
}

func TestAccountRunIsNew(t *testing.T) {
	list := []impl.Entry{billOf(9), billOf(8), payOf(3), billOf(7)}
	want := standingAt(0, 3, 6, 8, 7)
	out := impl.AccountRun(list)
	for i := range list {
		list[i] = impl.Entry{Kind: math.MaxInt64}
	}
	sameAccount(t, "behind spoilt entries", out, want)
	for i := range out.Open {
		out.Open[i] = -9
	}
	_ = append(out.Open, -9)
	sameAccountRun(t, "behind a spoilt answer", []impl.Entry{billOf(9), billOf(8), payOf(3), billOf(7)}, want)
}
