package tests

import (
	"math"
	"slices"
	"testing"

	"loop.example/g00068/impl"
)

func sameDebt(t *testing.T, debt int64, months int64, want []int64) {
	t.Helper()
	if got := impl.PlanDebt(debt, months); !slices.Equal(got, want) {
		t.Errorf("PlanDebt of %d in %d months: got %v, want %v", debt, months, got, want)
	}
}

func TestPlanDebtByHand(t *testing.T) {
	sameDebt(t, 10, 3, []int64{4, 3, 3})
	sameDebt(t, 11, 3, []int64{4, 4, 3})
	sameDebt(t, 12, 3, []int64{4, 4, 4})
	sameDebt(t, 13, 3, []int64{5, 4, 4})
	sameDebt(t, 2, 3, []int64{1, 1, 0})
	sameDebt(t, 1, 3, []int64{1, 0, 0})
	sameDebt(t, 0, 3, []int64{0, 0, 0})
	sameDebt(t, 0, 1, []int64{0})
	sameDebt(t, 0, 120, numbers(0, 120))
	sameDebt(t, 7, 1, []int64{7})
	sameDebt(t, 119, 120, slices.Concat(numbers(1, 119), []int64{0}))
	sameDebt(t, 121, 120, slices.Concat([]int64{2}, numbers(1, 119)))
	sameDebt(t, impl.MaxMoney, 1, []int64{impl.MaxMoney})
	sameDebt(t, impl.MaxMoney, 3, []int64{333333334, 333333333, 333333333})
	sameDebt(t, impl.MaxMoney, 120, slices.Concat(numbers(8333334, 40), numbers(8333333, 80)))
	sameDebt(t, impl.MaxMoney-1, 120, slices.Concat(numbers(8333334, 39), numbers(8333333, 81)))
}

func TestPlanDebtRefused(t *testing.T) {
	for _, debt := range beside(0, impl.MaxMoney) {
		for _, months := range []int64{1, 3, 120} {
			sameDebt(t, debt, months, nil)
		}
	}
	for _, months := range beside(1, 120) {
		for _, debt := range []int64{0, 1, 10, impl.MaxMoney} {
			sameDebt(t, debt, months, nil)
		}
	}
	sameDebt(t, 10, -1, nil)
	sameDebt(t, -1, 0, nil)
	sameDebt(t, math.MinInt64, -1, nil)
	sameDebt(t, impl.MaxMoney+1, 121, nil)
}

func TestPlanDebtIsNew(t *testing.T) {
	parts := impl.PlanDebt(10, 3)
	for i := range parts {
		parts[i] = -9
	}
	_ = append(parts, -9)
	sameDebt(t, 10, 3, []int64{4, 3, 3})
}
