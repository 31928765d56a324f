package tests

import (
	"slices"
	"strings"
	"testing"

	"loop.example/g00068/impl"
)

// each has a line and its answer for so many names.
func each(count int, both string) []string {
	var list []string
	for i := range count {
		list = append(list, strings.ReplaceAll(both, "NAME", "n"+decimal(int64(i))))
	}
	return list
}

func TestDeskStores(t *testing.T) {
	talk(t, "stores",
		"day a 1 1 > error 9",
		"store a 0 0 > error 1",
		"store a 1 2 > error 1",
		"day a 1 1 > error 9",
		"store a 1 1 > ok",
		"store a 1 1 > error 9",
		"store a 0 0 > error 9",
		"store a 1 2 > error 9",
		"day b 0 0 > error 9",
		"store b 1000000 1000000 > ok",
		"store c 999999 1000000 > error 1",
		"store c 0 1000000 > error 1",
		"day c 0 0 > error 9")
}

func TestDeskDays(t *testing.T) {
	talk(t, "days",
		"store a 100 50 > ok",
		"store b 1000000 0 > ok",
		"day a 60 20 > given 20 spill 0 short 0 volume 90",
		"day a 60 20 > given 20 spill 30 short 0 volume 100",
		"day a 0 0 > given 0 spill 0 short 0 volume 100",
		"day a 0 101 > given 100 spill 0 short 1 volume 0",
		"day a 0 1 > given 0 spill 0 short 1 volume 0",
		"day a 7 0 > given 0 spill 0 short 0 volume 7",
		"day a 1000000 1000000 > given 1000000 spill 0 short 0 volume 7",
		"day a 1000000 0 > given 0 spill 999907 short 0 volume 100",
		"day a 0 1000000 > given 100 spill 0 short 999900 volume 0",
		"day b 1000000 1 > given 1 spill 0 short 0 volume 999999",
		"day b 1000000 0 > given 0 spill 999999 short 0 volume 1000000",
		"day b 1000000 1000000 > given 1000000 spill 0 short 0 volume 1000000",
		"day a 0 0 > given 0 spill 0 short 0 volume 0",
		"day c 0 0 > error 9")
}

// TestDeskMaxTowns: what would not be right is told ahead of what would be too many, a name that is there ahead of both.
func TestDeskMaxTowns(t *testing.T) {
	stores := each(impl.MaxTowns, "store NAME 5 5 > ok")
	meters := each(impl.MaxTowns, "meter NAME 3 0 0 0 > ok")
	talk(t, "stores", append(slices.Clone(stores),
		"store m 1 1 > error 5",
		"store m 0 0 > error 1",
		"store m 1 2 > error 1",
		"store n3 1 1 > error 9",
		"store n3 0 0 > error 9",
		"day m 1 1 > error 9",
		"day n0 1 0 > given 0 spill 1 short 0 volume 5",
		"day n19 0 1 > given 1 spill 0 short 0 volume 4",
		"meter m 3 0 0 0 > ok",
		"store m 1 1 > error 5")...)
	talk(t, "meters", append(slices.Clone(meters),
		"meter m 3 0 0 0 > error 5",
		"meter m 2 0 0 0 > error 1",
		"meter n3 3 0 0 0 > error 9",
		"meter n3 2 0 0 0 > error 9",
		"read m 1 1 > error 9",
		"read n19 1 1 > water 1 kind 1",
		"pay m 1 > error 9",
		"pay n0 1 > open 0 credit 1",
		"store m 1 1 > ok",
		"meter m 3 0 0 0 > error 5")...)
	both := append(slices.Clone(stores), meters...)
	talk(t, "both", append(both, "store m 1 1 > error 5", "meter m 3 0 0 0 > error 5", "day n7 0 9 > given 5 spill 0 short 4 volume 0", "read n7 1 7 > water 7 kind 1")...)
	wrong := each(30, "store NAME 0 0 > error 1")
	talk(t, "wrong ones do not count", append(append(wrong, stores...), "store m 1 1 > error 5")...)
}

// TestDeskOwnNames: a store and a meter may have one name.
func TestDeskOwnNames(t *testing.T) {
	talk(t, "one name for both",
		"store a 10 1 > ok",
		"read a 1 1 > error 9",
		"bill a 1 > error 9",
		"pay a 1 > error 9",
		"meter a 3 1 0 0 > ok",
		"day a 5 0 > given 0 spill 0 short 0 volume 6",
		"read a 1 4 > water 4 kind 1",
		"meter b 3 1 0 0 > ok",
		"day b 5 0 > error 9",
		"store b 4 4 > ok",
		"day b 5 0 > given 0 spill 5 short 0 volume 4",
		"store store 1 1 > ok",
		"store ok 1 1 > ok",
		"day store 0 1 > given 1 spill 0 short 0 volume 0")
}

func TestDeskMeters(t *testing.T) {
	talk(t, "meters",
		"meter a 2 0 0 0 > error 1",
		"meter a 8 0 0 0 > error 1",
		"meter a 0 0 0 0 > error 1",
		"meter a 1000000 0 0 0 > error 1",
		"meter a 3 10001 0 0 > error 1",
		"meter a 3 0 100001 0 > error 1",
		"meter a 3 0 0 1000 > error 1",
		"read a 1 1 > error 9",
		"meter a 3 10000 100000 999 > ok",
		"meter a 3 10000 100000 999 > error 9",
		"meter b 7 0 0 1000000 > ok",
		"meter c 5 0 0 99999 > ok",
		"meter d 5 0 0 100000 > error 1",
		"read a 100001 1 > error 1",
		"read a 100000 1 > error 1",
		"read b 100001 1 > error 1",
		"read b 99999 -2 > error 1",
		"read b 100000 1000000 > water 0 kind 1")
}

func TestDeskReads(t *testing.T) {
	talk(t, "reads",
		"meter m 3 10 100 900 > ok",
		"read m 100 905 > error 1",
		"read m 99 905 > error 1",
		"read m 0 905 > error 1",
		"read m 101 1000 > error 1",
		"read m 101 -2 > error 1",
		"read m 101 -1000000 > error 1",
		"read m 101 999 > water 99 kind 1",
		"read m 101 999 > error 1",
		"read m 102 0 > water 1 kind 3",
		"read m 103 -1 > water 32 kind 4",
		"read m 103 -1 > error 1",
		"read m 104 32 > water 0 kind 3",
		"read m 105 593 > water 561 kind 2",
		"read m 106 592 > water 999 kind 2",
		"read m 107 600 > water 8 kind 1",
		"read m 117 -1 > water 260 kind 4",
		"read m 118 859 > water 999 kind 2",
		"read n 119 859 > error 9")
}

func TestDeskTariffs(t *testing.T) {
	talk(t, "tariffs",
		"meter m 3 0 0 0 > ok",
		"tariff 10001 0 0 0 > error 1",
		"tariff 0 201 0 0 > error 1",
		"tariff 0 0 101 0 > error 1",
		"tariff 0 0 0 10001 > error 1",
		"bill m 1 > error 9",
		"tariff 1 2 3 4 > ok",
		"bill m 100 > gross 103",
		"tariff 10000 200 100 10000 > ok",
		"bill m 1 > gross 20000",
		"tariff 10001 0 0 0 > error 1",
		"bill m 1 > gross 20000",
		"read m 1 1 > water 1 kind 1",
		"bill m 0 > gross 60000",
		"tariff 0 0 0 0 > ok",
		"bill m 1000 > gross 0",
		"tariff 0 0 0 1 > ok",
		"read m 2 3 > water 2 kind 1",
		"bill m 1000 > gross 2",
		"tariff 0 150 0 1 > ok",
		"read m 3 6 > water 3 kind 1",
		"bill m 7 > gross 7",
		"tariff 0 0 50 1 > ok",
		"read m 4 7 > water 1 kind 1",
		"bill m 7 > gross 2")
}

// TestDeskBillsUse: what was used is billed once, by the first bill that goes right.
func TestDeskBillsUse(t *testing.T) {
	talk(t, "bills",
		"bill m 1 > error 9",
		"tariff 0 0 0 2 > ok",
		"bill m 1 > error 9",
		"meter m 3 10 0 0 > ok",
		"meter n 3 10 0 0 > ok",
		"bill m 1 > gross 0",
		"read m 1 5 > water 5 kind 1",
		"read m 2 9 > water 4 kind 1",
		"read m 2 9 > error 1",
		"read n 2 7 > water 7 kind 1",
		"bill m 1001 > error 1",
		"bill m 1000000 > error 1",
		"bill m 1 > gross 18",
		"bill m 1 > gross 0",
		"read m 3 -1 > water 7 kind 4",
		"bill n 1000 > gross 14",
		"bill m 1000 > gross 14",
		"bill n 0 > gross 0",
		"bill o 0 > error 9",
		"pay m 1 > open 31 credit 0",
		"pay n 14 > open 0 credit 0")
	talk(t, "a bill of nought takes what was used, too",
		"meter m 3 10 0 0 > ok",
		"tariff 0 0 0 0 > ok",
		"read m 1 5 > water 5 kind 1",
		"bill m 9 > gross 0",
		"tariff 0 0 0 1 > ok",
		"bill m 9 > gross 0",
		"read m 2 6 > water 1 kind 1",
		"bill m 9 > gross 1",
		"pay m 1 > open 0 credit 0")
	talk(t, "no tariff, ahead of days that are too many",
		"meter m 3 10 0 0 > ok",
		"bill m 1001 > error 9",
		"tariff 0 0 0 0 > ok",
		"bill m 1001 > error 1",
		"bill n 1001 > error 9")
}

// TestDeskBillsTooMuch: water above MaxFlow is not billed, and stays.
func TestDeskBillsTooMuch(t *testing.T) {
	talk(t, "much water",
		"meter m 7 0 0 0 > ok",
		"tariff 1 0 0 1 > ok",
		"read m 1 1000000 > water 1000000 kind 2",
		"bill m 1 > gross 1000001",
		"read m 2 -1 > water 0 kind 4",
		"read m 3 1 > water 9000001 kind 2",
		"bill m 1 > error 1",
		"pay m 1 > open 1000000 credit 0")
	talk(t, "more water than a bill may have",
		"meter m 7 10000 0 0 > ok",
		"tariff 1 0 0 1 > ok",
		"read m 100 -1 > water 1000000 kind 4",
		"bill m 1 > gross 1000001",
		"read m 201 -1 > water 1010000 kind 4",
		"bill m 1 > error 1",
		"bill m 0 > error 1",
		"tariff 1 0 0 0 > ok",
		"bill m 1 > error 1",
		"read m 202 -1 > water 10000 kind 4",
		"bill m 1 > error 1",
		"pay m 1 > open 1000000 credit 0")
}

// TestDeskBillsMuchMoney: an entry has Money up to MaxMoney; a bill above that is none, and its water stays.
func TestDeskBillsMuchMoney(t *testing.T) {
	talk(t, "much money",
		"meter m 7 10000 0 0 > ok",
		"tariff 0 0 0 10000 > ok",
		"read m 10 -1 > water 100000 kind 4",
		"bill m 1000 > gross 1000000000",
		"read m 20 -1 > water 100000 kind 4",
		"tariff 1 0 0 10000 > ok",
		"bill m 1 > error 1",
		"bill m 1000 > error 1",
		"bill m 0 > gross 1000000000",
		"read m 30 -1 > water 100000 kind 4",
		"tariff 10000 200 100 10000 > ok",
		"bill m 1000 > error 1",
		"tariff 0 0 0 9999 > ok",
		"bill m 1000 > gross 999900000",
		"pay m 1000000 > open 2998900000 credit 0")
}

func TestDeskPays(t *testing.T) {
	talk(t, "payments",
		"pay m 1 > error 9",
		"meter m 3 10 0 0 > ok",
		"meter n 3 10 0 0 > ok",
		"tariff 1 0 0 0 > ok",
		"pay m 0 > error 1",
		"pay o 0 > error 9",
		"pay m 1000000 > open 0 credit 1000000",
		"pay m 1 > open 0 credit 1000001",
		"pay n 5 > open 0 credit 5",
		"bill n 8 > gross 8",
		"pay n 1 > open 2 credit 0",
		"bill n 10 > gross 10",
		"pay n 1 > open 11 credit 0",
		"pay n 0 > error 1",
		"pay n 11 > open 0 credit 0",
		"bill n 4 > gross 4",
		"bill n 6 > gross 6",
		"bill n 1 > gross 1",
		"pay n 7 > open 4 credit 0",
		"pay n 7 > open 0 credit 3",
		"pay m 1 > open 0 credit 1000002")
}

// TestDeskMaxEntries: the most entries are told by AccountRun, of what is then not right, too.
func TestDeskMaxEntries(t *testing.T) {
	full := []string{"meter m 3 0 0 0 > ok", "meter n 3 0 0 0 > ok", "tariff 1 0 0 0 > ok", "bill m 1000 > gross 1000"}
	for i := range impl.MaxEntries - 1 {
		full = append(full, "pay m 1 > open "+decimal(int64(999-i))+" credit 0")
	}
	talk(t, "entries", append(slices.Clone(full),
		"pay m 1 > error 2",
		"pay m 0 > error 2",
		"pay n 0 > error 1",
		"bill m 1 > error 2",
		"bill m 1001 > error 1",
		"bill m 0 > gross 0",
		"read m 1 5 > water 5 kind 1",
		"bill m 0 > gross 0",
		"pay m 1 > error 2",
		"pay n 1 > open 0 credit 1",
		"bill n 1 > gross 1",
		"pay n 1 > open 0 credit 1",
		"tariff 10000 0 0 10000 > ok",
		"read m 2 500 > water 495 kind 2",
		"bill m 1000 > error 2",
		"pay o 0 > error 9")...)
	for _, last := range []string{"bill m 2 > gross 2", "pay m 903 > open 0 credit 1"} {
		short := append(slices.Clone(full[:len(full)-1]), last)
		talk(t, "the last entry", append(short, "pay m 1 > error 2", "bill m 1 > error 2")...)
	}
}
