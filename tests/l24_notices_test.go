package tests

import (
	"math"
	"math/rand"
	"slices"
	"testing"

	"loop.example/g00068/impl"
)

func incident(number int64, state int64, areas ...int64) impl.Notice {
	return impl.Notice{Number: number, State: state, Areas: areas}
}

func flushAll() impl.Notice {
	return impl.Notice{Flush: true}
}

// eachArea is all of them, rising.
func eachArea() []int64 {
	var areas []int64
	for area := range int64(100) {
		areas = append(areas, area)
	}
	return areas
}

// bulletins may be, each by itself.
func bulletins() map[string]impl.Notice {
	right := map[string]impl.Notice{
		"a Flush":                       flushAll(),
		"a Flush of no Areas":           {Flush: true, Areas: []int64{}},
		"of no Areas":                   incident(1, 1),
		"of an empty list of Areas":     {Number: 1, State: 1, Areas: []int64{}},
		"over, of no Areas":             incident(1, 0),
		"of all Areas":                  incident(99, 9, eachArea()...),
		"of the first and the last one": incident(99, 0, 0, 99),
	}
	for number := int64(1); number <= 99; number++ {
		right["Number "+decimal(number)] = incident(number, number%10, number)
	}
	for state := range int64(10) {
		right["State "+decimal(state)] = incident(7, state, 1, 2)
	}
	return right
}

// wrongNotices are right but for what their names say.
func wrongNotices() map[string]impl.Notice {
	wrong := map[string]impl.Notice{
		"none":                         {},
		"Areas falling":                incident(1, 1, 2, 1),
		"Areas alike":                  incident(1, 1, 2, 2),
		"the last Areas alike":         incident(1, 1, 0, 1, 2, 99, 99),
		"over, Areas alike":            incident(1, 0, 5, 5),
		"the least Area":               incident(1, 1, math.MinInt64, 0),
		"a Flush with a Number":        {Flush: true, Number: 1},
		"a Flush with a State":         {Flush: true, State: 1},
		"a Flush with an Area":         {Flush: true, Areas: []int64{0}},
		"a Flush with all":             {Flush: true, Number: 1, State: 1, Areas: []int64{1}},
		"a Flush with Number and Area": {Flush: true, Number: 1, Areas: []int64{1}},
		"all Areas and one more":       incident(1, 1, append(eachArea(), 100)...),
		"very many Areas":              {Number: 1, State: 1, Areas: make([]int64, 1000)},
	}
	for what, number := range beside(1, 99) {
		wrong["Number "+what] = incident(number, 1, 1)
		wrong["Number "+what+", of no Areas"] = incident(number, 0)
		wrong["a Flush, Number "+what] = impl.Notice{Flush: true, Number: max(number, 1)}
	}
	for what, state := range beside(0, 9) {
		wrong["State "+what] = incident(1, state, 1)
		wrong["a Flush, State "+what] = impl.Notice{Flush: true, State: state}
	}
	for what, area := range beside(0, 99) {
		wrong["an Area "+what] = incident(1, 1, area)
		wrong["over, an Area "+what] = incident(1, 0, area)
		wrong["the first Area "+what] = incident(1, 1, area, 5)
		wrong["the last Area "+what] = incident(1, 1, 5, area)
	}
	return wrong
}

func copiedNotices(list []impl.Notice) []impl.Notice {
	own := roomyOf(list, incident(-7, -7, -7))
	for i := range own {
		own[i].Areas = roomyOf(list[i].Areas, -7)
	}
	return own
}

func keptNotices(own []impl.Notice, list []impl.Notice) bool {
	for i, n := range list {
		if own[i].Number != n.Number || own[i].State != n.State || own[i].Flush != n.Flush || !keptOf(own[i].Areas, n.Areas, -7) {
			return false
		}
	}
	return own == nil || own[:len(own)+1][len(own)].Number == -7
}

// watchedNotices calls with notices of its own, and tells if they were changed.
func watchedNotices(t *testing.T, what string, list []impl.Notice, call func(list []impl.Notice)) {
	t.Helper()
	own := copiedNotices(list)
	call(own)
	if len(own) != len(list) || !keptNotices(own, list) {
		t.Errorf("%s: the notices were changed", what)
	}
}

// sameOpen writes over what is told, so that the next answer would show what is kept.
func sameOpen(t *testing.T, what string, list []impl.Notice, want []int64) {
	t.Helper()
	what = "NoticeOpen, " + what
	watchedNotices(t, what, list, func(list []impl.Notice) {
		t.Helper()
		for range 2 {
			got := impl.NoticeOpen(list)
			samePlaces(t, what, got, want)
			for i := range got {
				got[i] = -9
			}
		}
	})
}

func TestNoticeOpenByHand(t *testing.T) {
	sameOpen(t, "none, nil", nil, nil)
	sameOpen(t, "none", []impl.Notice{}, nil)
	sameOpen(t, "a Flush", []impl.Notice{flushAll()}, nil)
	sameOpen(t, "one", []impl.Notice{incident(5, 1, 1)}, []int64{5})
	sameOpen(t, "one, told nowhere", []impl.Notice{incident(5, 1)}, []int64{5})
	sameOpen(t, "one, sent", []impl.Notice{incident(5, 1, 1), flushAll()}, []int64{5})
	sameOpen(t, "one that was over from the first", []impl.Notice{incident(5, 0, 1)}, nil)
	sameOpen(t, "one that is over", []impl.Notice{incident(5, 1, 1), incident(5, 0, 1)}, nil)
	sameOpen(t, "one that is over, told nowhere", []impl.Notice{incident(5, 1, 1), incident(5, 0)}, nil)
	sameOpen(t, "one that is over elsewhere", []impl.Notice{incident(5, 1, 1), incident(5, 0, 2)}, nil)
	sameOpen(t, "one that is open once more", []impl.Notice{incident(5, 1, 1), incident(5, 0, 1), incident(5, 2)}, []int64{5})
	sameOpen(t, "the first and the last one", []impl.Notice{incident(99, 9), incident(1, 1)}, []int64{1, 99})
	sameOpen(t, "falling", []impl.Notice{incident(3, 1), incident(2, 1), flushAll(), incident(1, 1), incident(2, 0)}, []int64{1, 3})
	var all []impl.Notice
	var numbered []int64
	for number := int64(1); number <= 99; number++ {
		all = append(all, incident(100-number, 1+number%9))
		numbered = append(numbered, number)
	}
	sameOpen(t, "all", all, numbered)
}

func TestNoticeOpenLimits(t *testing.T) {
	for what, n := range bulletins() {
		var want []int64
		if n.State != 0 {
			want = []int64{n.Number}
		}
		sameOpen(t, what, []impl.Notice{n}, want)
		sameOpen(t, what+", sent", []impl.Notice{n, flushAll()}, want)
	}
	full := slices.Repeat([]impl.Notice{incident(4, 2, 1)}, impl.MaxList)
	sameOpen(t, "MaxList", full, []int64{4})
	sameOpen(t, "one more than MaxList", append(full, incident(4, 2, 1)), nil)
	sameOpen(t, "very many", slices.Repeat(full, 10), nil)
	full[impl.MaxList-1] = incident(4, 0, 1)
	sameOpen(t, "MaxList, the last one over", full, nil)
	sameOpen(t, "MaxList Flushes", slices.Repeat([]impl.Notice{flushAll()}, impl.MaxList), nil)
}

func TestNoticeOpenWrong(t *testing.T) {
	for what, n := range wrongNotices() {
		sameOpen(t, what, []impl.Notice{n}, nil)
		sameOpen(t, what+", ahead of a right one", []impl.Notice{n, incident(5, 1, 1)}, nil)
		sameOpen(t, what+", behind a right one", []impl.Notice{incident(5, 1, 1), n}, nil)
		full := slices.Repeat([]impl.Notice{incident(4, 2, 1)}, impl.MaxList)
		full[impl.MaxList-1] = n
		sameOpen(t, what+", the last of MaxList", full, nil)
	}
}

// lastOf is the last notice of the Number, if there is one.
func lastOf(list []impl.Notice, number int64) (impl.Notice, bool) {
	for _, n := range slices.Backward(list) {
		if !n.Flush && n.Number == number {
			return n, true
		}
	}
	return impl.Notice{}, false
}

// anyAreas are below most.
func anyAreas(random *rand.Rand, most int64) []int64 {
	var areas []int64
	often := 1 + random.Intn(3)
	for area := range most {
		if random.Intn(often) == 0 {
			areas = append(areas, area)
		}
	}
	return areas
}

// anyNotices are right, of few Numbers and areas, if asked for.
func anyNotices(random *rand.Rand, count int, incidents int64, areas int64) []impl.Notice {
	var list []impl.Notice
	for range count {
		n := incident(1+random.Int63n(incidents), random.Int63n(10), anyAreas(random, areas)...)
		switch random.Intn(6) {
		case 0, 1:
			n = flushAll()
		case 2:
			n.State = 0
		case 3:
			n.State = 1
		}
		list = append(list, n)
	}
	return list
}

func TestNoticeOpenOfAny(t *testing.T) {
	random := rand.New(rand.NewSource(240))
	for range 1000 {
		list := anyNotices(random, random.Intn(impl.MaxList+1), 1+random.Int63n(99), 1+random.Int63n(5))
		var want []int64
		for number := int64(1); number <= 99; number++ {
			if last, any := lastOf(list, number); any && last.State > 0 {
				want = append(want, number)
			}
		}
		sameOpen(t, "any", list, want)
	}
}
