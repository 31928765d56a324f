package tests

import (
	"slices"
	"strings"
	"testing"

	"loop.example/g00068/impl"
)

func TestDeskPlans(t *testing.T) {
	talk(t, "a plan",
		"source 0 > error 9",
		"row 0 1 1 > error 9",
		"shut 0 > error 9",
		"places 0 5 7 > ok",
		"shut 0 > rows homes 12",
		"source 0 > ok",
		"source 0 > ok",
		"source 3 > error 1",
		"source 1000000 > error 1",
		"row 0 1 1 > ok",
		"row 1 2 1 > ok",
		"row 0 2 1 > ok",
		"row 1 1 1 > error 1",
		"row 3 1 1 > error 1",
		"row 1 3 1 > error 1",
		"row 0 1 3 > error 1",
		"shut 2 > rows 1 2 homes 7",
		"shut 1 > rows 0 1 homes 5",
		"shut 0 > error 4",
		"shut 3 > error 1",
		"row 2 0 0 > ok",
		"shut 2 > error 4",
		"shut 1 > rows 0 1 homes 5",
		"row 0 1 2 > ok",
		"shut 1 > error 4")
	talk(t, "sources in any order",
		"places 1 2 4 8 16 > ok",
		"source 3 > ok",
		"source 0 > ok",
		"source 4 > ok",
		"source 0 > ok",
		"source 3 > ok",
		"row 0 1 1 > ok",
		"row 1 2 1 > ok",
		"row 2 3 1 > ok",
		"shut 1 > rows 0 1 homes 2",
		"shut 2 > rows 1 2 homes 4",
		"shut 0 > error 4",
		"source 2 > ok",
		"shut 1 > rows 0 1 homes 2",
		"shut 2 > error 4",
		"source 1 > ok",
		"source 5 > error 1",
		"shut 1 > error 4")
}

func TestDeskPlanIsNew(t *testing.T) {
	talk(t, "a new plan",
		"places 3 4 > ok",
		"source 0 > ok",
		"row 0 1 1 > ok",
		"shut 1 > rows 0 homes 4",
		"places 5 6 > ok",
		"shut 1 > rows homes 11",
		"shut 0 > rows homes 11",
		"source 1 > ok",
		"shut 0 > rows homes 5",
		"row 1 0 1 > ok",
		"shut 0 > rows 0 homes 5",
		"places"+strings.Repeat(" 1", 41)+" > error 1",
		"shut 0 > rows 0 homes 5",
		"places 1000000 > ok",
		"shut 1 > error 1",
		"shut 0 > rows homes 1000000")
}

func TestDeskPlanLimits(t *testing.T) {
	talk(t, "places",
		"places"+strings.Repeat(" 1", 41)+" > error 1",
		"shut 0 > error 9",
		"places"+strings.Repeat(" 1000000", 40)+" > ok",
		"shut 40 > error 1",
		"shut 39 > rows homes 40000000",
		"source 39 > ok",
		"source 40 > error 1",
		"shut 39 > error 4",
		"shut 0 > rows homes 39000000")
	rows := []string{"places 1 2 > ok", "source 0 > ok"}
	words := "rows"
	for i := range impl.MaxRows {
		rows = append(rows, []string{"row 0 1 1 > ok", "row 1 0 1 > ok"}[i%2])
		words += " " + decimal(int64(i))
	}
	talk(t, "rows", append(rows,
		"row 0 1 1 > error 1",
		"row 0 1 0 > error 1",
		"shut 1 > "+words+" homes 2")...)
}

func TestDeskLinks(t *testing.T) {
	talk(t, "a link",
		"note 5 > error 9",
		"poll 0 > error 9",
		"poll 3 > error 9",
		"link 251 0 > error 1",
		"note 5 > error 9",
		"link 1000000 1000000 > error 1",
		"poll 3 > error 9",
		"link 250 2 > ok",
		"poll 0 > notes 0 gaps 0",
		"note 0 > waits 1",
		"note 2 > waits 1",
		"note -2 > waits 1",
		"note 3 > waits 2",
		"poll 2 > notes 0 gaps 0",
		"poll 1 > notes 2 gaps 0",
		"note 0 > waits 3",
		"poll 3 > error 1",
		"poll 1000000 > error 1",
		"poll 0 > notes 3 gaps 0",
		"poll 0 > notes 3 gaps 0",
		"note 2 > waits 0",
		"note -1000000 > waits 1",
		"note 1000000 > waits 2",
		"link 251 0 > error 1",
		"poll 1 > notes 5 gaps 0",
		"link 0 1000000 > ok",
		"poll 0 > notes 0 gaps 0",
		"note -1000000 > waits 1",
		"note 0 > waits 1",
		"note 1 > waits 2",
		"link 0 1000000 > ok",
		"note 1 > waits 1")
}

// TestDeskLinkDrops: notes that waited too long are gone, and the master tells how many it missed.
func TestDeskLinkDrops(t *testing.T) {
	list := []string{"link 7 0 > ok"}
	for i := range int64(60) {
		list = append(list, "note "+decimal(i)+" > waits "+decimal(min(i+1, impl.MaxWait)))
	}
	talk(t, "drops", append(list,
		"poll 2 > notes 0 gaps 0",
		"poll 1 > notes 40 gaps 20",
		"note 7 > waits 40",
		"poll 0 > notes 41 gaps 20",
		"poll 0 > notes 41 gaps 20",
		"note 8 > waits 1",
		"link 7 0 > ok",
		"poll 0 > notes 0 gaps 0",
		"note 7 > waits 1")...)
}

// TestDeskManyNotes: as many lines as there can be leave fewer notes than a master has room for.
func TestDeskManyNotes(t *testing.T) {
	list := []string{"link 0 0 > ok"}
	for i := range int64(99) {
		list = append(list, "note "+decimal(i)+" > waits 1", "poll 0 > notes "+decimal(i+1)+" gaps 0")
	}
	talk(t, "notes", append(list, "note 99 > waits 1")...)
}

func TestDeskAlarms(t *testing.T) {
	talk(t, "an alarm",
		"value 1 > error 9",
		"see > error 9",
		"shelve 1 > error 9",
		"alarm 1 2 0 > error 1",
		"alarm 0 0 101 > error 1",
		"see > error 9",
		"alarm 10 5 0 > ok",
		"value 10 > state 1",
		"value 11 > state 2",
		"value 5 > state 2",
		"value 4 > state 4",
		"value 11 > state 2",
		"see > state 3",
		"see > state 3",
		"alarm 4 5 0 > error 1",
		"value 99 > state 3",
		"value 4 > state 1",
		"see > state 1",
		"value 11 > state 2",
		"value -1000000 > state 4",
		"see > state 1")
	talk(t, "delay and shelf",
		"alarm -5 -5 2 > ok",
		"value 0 > state 1",
		"value 0 > state 1",
		"value -5 > state 1",
		"value 0 > state 1",
		"value 0 > state 1",
		"value 0 > state 2",
		"shelve 2 > state 2",
		"value -9 > state 2",
		"value -9 > state 2",
		"value -9 > state 4",
		"shelve 1 > state 4",
		"shelve 0 > state 4",
		"value -5 > state 4",
		"shelve 1 > state 4",
		"shelve 1001 > state 4",
		"shelve 1000000 > state 4",
		"value 1 > state 4",
		"value 1 > state 4",
		"value 1 > state 4",
		"value 1 > state 2",
		"shelve 1000 > state 2",
		"see > state 3",
		"value -9 > state 3",
		"alarm 0 0 0 > ok",
		"value 1 > state 2",
		"alarm 0 0 0 > ok",
		"see > state 1")
	talk(t, "the most",
		"alarm 1000000 -1000000 100 > ok",
		"value 1000000 > state 1",
		"alarm -1000000 -1000000 0 > ok",
		"value 0 > state 2",
		"value -1000000 > state 2")
	long := append([]string{"alarm 0 0 100 > ok"}, slices.Repeat([]string{"value 1 > state 1"}, 100)...)
	talk(t, "the longest delay", append(long, "value 1 > state 2")...)
}

func TestDeskFracs(t *testing.T) {
	talk(t, "fractions",
		"frac 1 2 1 3 > 5/6",
		"frac 1 2 1 2 > 1",
		"frac -1 2 1 2 > 0",
		"frac -1 2 -1 3 > -5/6",
		"frac 2 4 -1000000 1000000 > -1/2",
		"frac 0 1 0 9 > 0",
		"frac 1000000 1 1000000 1 > 2000000",
		"frac 1 0 1 1 > error 1",
		"frac 1 1 1 0 > error 1",
		"frac 0 0 0 0 > error 1",
		"frac 1 1000000 1 999999 > error 5",
		"frac 1 0 1 999999 > error 1",
		"frac 1 1000000 1 500000 > 3/1000000",
		"frac 1 46341 1 46340 > 92681/2147441940",
		"frac 1 46341 1 46342 > error 5",
		"frac 1000000 3 1 1000000 > error 5",
		"frac 1000000 3 -1000000 3 > 0")
}
