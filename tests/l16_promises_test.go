package tests

import (
	"math/rand"
	"slices"
	"testing"

	"loop.example/g00068/impl"
)

// TestPromise29BillsReAdd: each part of a bill is told by those ahead of it.
func TestPromise29BillsReAdd(t *testing.T) {
	random := rand.New(rand.NewSource(163))
	for range 20000 {
		tariff := anyTariff(random)
		days, water := anyNumber(random, 1000), anyBilledWater(random, tariff)
		b := impl.BillMake(tariff, days, water)
		if b.Code != impl.OK || len(b.Lines) != len(tariff.Blocks) || b.Days != days*tariff.Day {
			t.Fatalf("BillMake of %+v, %d days, water %d: got %+v", tariff, days, water, b)
		}
		lines := sumOf(b.Lines)
		if b.Net != b.Days+lines+b.Sewage || b.Gross != b.Net+b.Tax || min(b.Net, b.Sewage, b.Tax, slices.Min(b.Lines)) < 0 {
			t.Fatalf("BillMake of %+v, %d days, water %d: %+v does not add up", tariff, days, water, b)
		}
		if off := lines*tariff.Sewage - 100*b.Sewage; off < 0 || off >= 100 {
			t.Fatalf("BillMake of %+v, %d days, water %d: the Sewage of %+v", tariff, days, water, b)
		}
		if off := b.Net*tariff.Tax - 100*b.Tax; off < -50 || off >= 50 {
			t.Fatalf("BillMake of %+v, %d days, water %d: the Tax of %+v", tariff, days, water, b)
		}
		if !impl.BillRight(tariff, water, b) {
			t.Fatalf("BillRight of %+v, water %d: %+v is not right", tariff, water, b)
		}
	}
}

// TestPromise29DropByDrop: each drop of water is paid once, in the first block whose Up it does not pass.
func TestPromise29DropByDrop(t *testing.T) {
	random := rand.New(rand.NewSource(164))
	for range 200 {
		tariff := anyTariff(random)
		lines := numbers(0, len(tariff.Blocks))
		for water := int64(0); water <= 300; water++ {
			if water > 0 {
				place := slices.IndexFunc(tariff.Blocks[:len(lines)-1], func(b impl.Block) bool { return water <= b.Up })
				if place == -1 {
					place = len(lines) - 1
				}
				lines[place] += tariff.Blocks[place].Price
			}
			if b := impl.BillMake(tariff, 0, water); b.Code != impl.OK || !slices.Equal(b.Lines, lines) {
				t.Fatalf("BillMake of %+v, water %d: got %+v, want the lines %v", tariff, water, b, lines)
			}
		}
	}
}

// TestPromise29NoOtherBillIsRight: what does not re-add is not right.
func TestPromise29NoOtherBillIsRight(t *testing.T) {
	random := rand.New(rand.NewSource(165))
	for range 5000 {
		tariff := anyTariff(random)
		water := anyBilledWater(random, tariff)
		b := impl.BillMake(tariff, anyNumber(random, 1000), water)
		fields := []*int64{&b.Sewage, &b.Net, &b.Tax, &b.Gross, &b.Code}
		for place := range b.Lines {
			fields = append(fields, &b.Lines[place])
		}
		for _, field := range fields {
			was := *field
			*field += 1 - 2*random.Int63n(2)
			if impl.BillRight(tariff, water, b) {
				t.Fatalf("BillRight of %+v, water %d: %+v is right", tariff, water, b)
			}
			*field = was
		}
		if !impl.BillRight(tariff, water, b) {
			t.Fatalf("BillRight of %+v, water %d: %+v is not right", tariff, water, b)
		}
	}
}

// moneyOf is all money of a kind.
func moneyOf(list []impl.Entry, kind int64) int64 {
	sum := int64(0)
	for _, e := range list {
		if e.Kind == kind {
			sum += e.Money
		}
	}
	return sum
}

// TestPromise29AccountsReAdd holds the sums behind each entry against each other, and what one more entry does.
func TestPromise29AccountsReAdd(t *testing.T) {
	random := rand.New(rand.NewSource(166))
	seen := map[string]int{}
	for range 500 {
		list := anyEntries(random, impl.MaxEntries)
		ahead := impl.Account{}
		for count := range len(list) + 1 {
			a := impl.AccountRun(list[:count])
			billed, paid := moneyOf(list[:count], impl.EntryBill), moneyOf(list[:count], impl.EntryPay)-moneyOf(list[:count], impl.EntryBack)
			if a.Code != impl.OK || a.Paid != paid || sumOf(a.Open)-a.Credit != billed-paid {
				t.Fatalf("AccountRun of %+v: got %+v, but %d was billed and %d paid", list[:count], a, billed, paid)
			}
			if a.Credit < 0 || len(a.Open) > 0 && (a.Credit > 0 || slices.Min(a.Open) < 1) {
				t.Fatalf("AccountRun of %+v: got %+v", list[:count], a)
			}
			if count > 0 && !followsBy(list[count-1], ahead, a) {
				t.Fatalf("AccountRun of %+v: %+v ahead of the last entry, %+v behind it", list[:count], ahead, a)
			}
			ahead = a
			seen["open"] += min(1, len(a.Open)/2)
			seen["credit"] += int(min(1, a.Credit))
		}
	}
	if seen["open"] < 5000 || seen["credit"] < 5000 {
		t.Errorf("%v: too few to tell", seen)
	}
}

// followsBy: a bill leaves those ahead of it alone, a payment those at the end but one, money back all of them.
func followsBy(e impl.Entry, ahead impl.Account, behind impl.Account) bool {
	was, are := len(ahead.Open), len(behind.Open)
	switch e.Kind {
	case impl.EntryBill:
		return are >= was && are <= was+1 && slices.Equal(behind.Open[:was], ahead.Open) && ahead.Credit-behind.Credit <= e.Money
	case impl.EntryPay:
		return are <= was && (are == 0 || slices.Equal(behind.Open[1:], ahead.Open[was-are+1:]) && behind.Open[0] <= ahead.Open[was-are])
	}
	return slices.Equal(behind.Open, ahead.Open) && ahead.Credit-behind.Credit == e.Money
}

// TestPromise29MoneyBackIsCredit: all credit may go back, and no more.
func TestPromise29MoneyBackIsCredit(t *testing.T) {
	random := rand.New(rand.NewSource(167))
	tried := 0
	for range 3000 {
		list := anyEntries(random, random.Intn(impl.MaxEntries))
		a := impl.AccountRun(list)
		if a.Credit >= impl.MaxMoney {
			continue
		}
		sameAccountRun(t, "one more than credit", slices.Concat(list, []impl.Entry{backOf(a.Credit + 1)}), accountFault(impl.ErrState))
		if a.Credit > 0 {
			sameAccountRun(t, "all credit", slices.Concat(list, []impl.Entry{backOf(a.Credit)}), standingAt(0, a.Paid-a.Credit, a.Open...))
			tried++
		}
	}
	if tried < 300 {
		t.Errorf("%d: too few to tell", tried)
	}
}

// TestPromise30PartsOfADebtAreTheDebt, in each number of months.
func TestPromise30PartsOfADebtAreTheDebt(t *testing.T) {
	random := rand.New(rand.NewSource(168))
	for months := int64(1); months <= 120; months++ {
		debts := []int64{0, 1, months - 1, months, months + 1, impl.MaxMoney - 1, impl.MaxMoney}
		for range 100 {
			debts = append(debts, anyNumber(random, []int64{500, impl.MaxMoney}[random.Intn(2)]))
		}
		for _, debt := range debts {
			parts := impl.PlanDebt(debt, months)
			if int64(len(parts)) != months || sumOf(parts) != debt {
				t.Fatalf("PlanDebt of %d in %d months: got %v", debt, months, parts)
			}
			for i, part := range parts {
				if part < 0 || i > 0 && part > parts[i-1] || parts[0]-part > 1 {
					t.Fatalf("PlanDebt of %d in %d months: part %d of %v", debt, months, i, parts)
				}
			}
		}
	}
}
