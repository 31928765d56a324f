package tests

import (
	"math/rand"
	"slices"
	"strings"
	"testing"

	"loop.example/g00068/impl"
)

func homeIn(name string, area int64) impl.Home {
	return impl.Home{Name: name, Area: area}
}

// village is homes whose order is neither that of their names nor that of their areas.
func village() []impl.Home {
	return []impl.Home{homeIn("mill", 7), homeIn("farm", 2), homeIn("school", 7), homeIn("inn", 0), homeIn("chapel", 99)}
}

// manyHomes are so many, all in an area.
func manyHomes(count int, area int64) []impl.Home {
	var list []impl.Home
	for i := range count {
		list = append(list, homeIn("home"+decimal(int64(i)), area))
	}
	return list
}

// spreadHomes are so many, each in an area of its own, if there are as many.
func spreadHomes(count int) []impl.Home {
	list := manyHomes(count, 0)
	for i := range list {
		list[i].Area = int64(99 - i%100)
	}
	return list
}

func changedHomes(list []impl.Home, change func(list []impl.Home)) []impl.Home {
	list = slices.Clone(list)
	change(list)
	return list
}

// rightHomes are at the limits, or few.
func rightHomes() map[string][]impl.Home {
	right := map[string][]impl.Home{
		"none, nil":               nil,
		"none":                    {},
		"a village":               village(),
		"one":                     {homeIn("a", 0)},
		"one in the last area":    {homeIn("a", 99)},
		"MaxHomes in an area":     manyHomes(impl.MaxHomes, 5),
		"MaxHomes in many areas":  spreadHomes(impl.MaxHomes),
		"one less than MaxHomes":  manyHomes(impl.MaxHomes-1, 0),
		"names that begin others": {homeIn("aa", 1), homeIn("a", 1), homeIn("aaa", 1), homeIn("a-", 1), homeIn("a0", 1)},
	}
	for _, name := range append(rightNames(), progWords()...) {
		right["the name "+name] = []impl.Home{homeIn("zz", 1), homeIn(name, 1)}
	}
	for area := range int64(100) {
		right["the area "+decimal(area)] = []impl.Home{homeIn("a", area)}
	}
	return right
}

// wrongHomes are right but for what their names say; none has more than MaxList.
func wrongHomes() map[string][]impl.Home {
	wrong := map[string][]impl.Home{
		"one more than MaxHomes": manyHomes(impl.MaxHomes+1, 0),
		"MaxList":                manyHomes(impl.MaxList, 0),
		"a zero Home":            {{}},
		"no name":                {homeIn("", 5)},
		"two alike":              {homeIn("a", 1), homeIn("a", 1)},
		"two names alike":        {homeIn("a", 1), homeIn("a", 2)},
	}
	add := func(what string, change func(list []impl.Home)) {
		wrong[what] = changedHomes(village(), change)
	}
	for what, name := range wrongNames() {
		if !slices.Contains(progWords(), name) {
			add("the first name is "+what, func(list []impl.Home) { list[0].Name = name })
			add("the last name is "+what, func(list []impl.Home) { list[4].Name = name })
		}
	}
	for what, area := range beside(0, 99) {
		add("the first area is "+what, func(list []impl.Home) { list[0].Area = area })
		add("the last area is "+what, func(list []impl.Home) { list[4].Area = area })
	}
	for a := range village() {
		for b := range a {
			add("the names "+decimal(int64(a))+" and "+decimal(int64(b))+" alike", func(list []impl.Home) { list[a].Name = list[b].Name })
		}
	}
	wrong["the last of MaxHomes alike"] = changedHomes(manyHomes(impl.MaxHomes, 0), func(list []impl.Home) { list[59].Name = list[0].Name })
	wrong["the last of MaxHomes without a name"] = changedHomes(manyHomes(impl.MaxHomes, 0), func(list []impl.Home) { list[59].Name = "" })
	wrong["the last of MaxHomes in no area"] = changedHomes(manyHomes(impl.MaxHomes, 0), func(list []impl.Home) { list[59].Area = 100 })
	return wrong
}

// watchedHomes calls with homes of its own, and tells if they were changed.
func watchedHomes(t *testing.T, what string, list []impl.Home, call func(list []impl.Home)) {
	t.Helper()
	mark := homeIn("-7", -7)
	own := roomyOf(list, mark)
	call(own)
	if !keptOf(own, list, mark) {
		t.Errorf("%s: the homes were changed", what)
	}
}

func sameHomesRight(t *testing.T, what string, list []impl.Home, want bool) {
	t.Helper()
	watchedHomes(t, "HomesRight, "+what, list, func(list []impl.Home) {
		t.Helper()
		if got := impl.HomesRight(list); got != want {
			t.Errorf("HomesRight, %s: got %v", what, got)
		}
	})
}

func TestHomesRight(t *testing.T) {
	for what, list := range rightHomes() {
		sameHomesRight(t, what, list, true)
	}
	for what, list := range wrongHomes() {
		sameHomesRight(t, what, list, false)
	}
	for _, count := range []int{impl.MaxList + 1, 5000} {
		sameHomesRight(t, "too long a list", manyHomes(count, 0), false)
	}
}

func TestNoticeNumbers(t *testing.T) {
	samePlaces(t, "limits", []int64{impl.MaxHomes, impl.MaxTold}, []int64{60, 2000})
}

// sameAreas writes over what is told, so that the next answer would show what is kept.
func sameAreas(t *testing.T, what string, homes []impl.Home, want []int64) {
	t.Helper()
	what = "AreasOf, " + what
	watchedHomes(t, what, homes, func(homes []impl.Home) {
		t.Helper()
		for range 2 {
			got := impl.AreasOf(homes)
			samePlaces(t, what, got, want)
			for i := range got {
				got[i] = -9
			}
		}
	})
}

func TestAreasOfByHand(t *testing.T) {
	sameAreas(t, "none, nil", nil, nil)
	sameAreas(t, "none", []impl.Home{}, nil)
	sameAreas(t, "a village", village(), []int64{0, 2, 7, 99})
	sameAreas(t, "the first area", []impl.Home{homeIn("a", 0)}, []int64{0})
	sameAreas(t, "the last area", []impl.Home{homeIn("a", 99)}, []int64{99})
	sameAreas(t, "falling", []impl.Home{homeIn("a", 3), homeIn("b", 2), homeIn("c", 1)}, []int64{1, 2, 3})
	sameAreas(t, "MaxHomes in one", manyHomes(impl.MaxHomes, 42), []int64{42})
	var all []int64
	for area := range int64(impl.MaxHomes) {
		all = append(all, 40+area)
	}
	sameAreas(t, "MaxHomes in as many", spreadHomes(impl.MaxHomes), all)
}

func TestAreasOfWrong(t *testing.T) {
	for what, list := range wrongHomes() {
		sameAreas(t, what, list, nil)
	}
	for _, count := range []int{impl.MaxList + 1, 5000} {
		sameAreas(t, "too long a list", spreadHomes(count), nil)
	}
}

// anyHomes are right, in areas below most.
func anyHomes(random *rand.Rand, count int, most int64) []impl.Home {
	var list []impl.Home
	for _, name := range anyNames(random, count) {
		list = append(list, homeIn(name, random.Int63n(most)))
	}
	return list
}

func TestAreasOfAny(t *testing.T) {
	random := rand.New(rand.NewSource(239))
	for range 500 {
		list := anyHomes(random, random.Intn(impl.MaxHomes+1), 1+random.Int63n(100))
		var want []int64
		for area := range int64(100) {
			if slices.ContainsFunc(list, func(h impl.Home) bool { return h.Area == area }) {
				want = append(want, area)
			}
		}
		sameAreas(t, "any", list, want)
		sameHomesRight(t, "any", list, true)
		if len(list) > 1 {
			alike := changedHomes(list, func(list []impl.Home) { list[random.Intn(len(list)-1)].Name = strings.Clone(list[len(list)-1].Name) })
			sameHomesRight(t, "any, two alike", alike, false)
			sameAreas(t, "any, two alike", alike, nil)
		}
	}
}
