package tests

import (
	"math/rand"
	"slices"
	"testing"

	"loop.example/g00068/impl"
)

// job has no Rows; after are the places that it comes after.
func job(days int64, crew int64, after ...int64) impl.Job {
	return impl.Job{Days: days, Crew: crew, After: after}
}

func withRows(j impl.Job, rows ...int64) impl.Job {
	j.Rows = rows
	return j
}

// site has Jobs that wait for others, for people, and for a Row that another one has.
func site() []impl.Job {
	return []impl.Job{
		withRows(job(3, 2), 1, 4),
		withRows(job(2, 3), 2),
		withRows(job(4, 1, 0), 4, 7),
		job(1, 4),
		withRows(job(2, 2, 1, 3), 7),
	}
}

func copiedJobs(list []impl.Job) []impl.Job {
	list = slices.Clone(list)
	for i, j := range list {
		list[i].After, list[i].Rows = slices.Clone(j.After), slices.Clone(j.Rows)
	}
	return list
}

func changedJobs(list []impl.Job, change func(list []impl.Job)) []impl.Job {
	list = copiedJobs(list)
	change(list)
	return list
}

func manyJobs(count int, each impl.Job) []impl.Job {
	return slices.Repeat([]impl.Job{each}, count)
}

// rowsFrom are so many rising Rows.
func rowsFrom(first int64, count int) []int64 {
	rows := make([]int64, count)
	for i := range rows {
		rows[i] = first + int64(i)
	}
	return rows
}

func sameJob(a impl.Job, b impl.Job) bool {
	return a.Days == b.Days && a.Crew == b.Crew && slices.Equal(a.After, b.After) && slices.Equal(a.Rows, b.Rows)
}

// watchedJobs calls with Jobs of its own, with room behind each of their lists, and tells if these were changed.
func watchedJobs(t *testing.T, what string, list []impl.Job, call func(list []impl.Job)) {
	t.Helper()
	behind := job(-7, -7)
	given := slices.Concat(list, []impl.Job{behind})
	for i, j := range list {
		given[i].After, given[i].Rows = roomyPlaces(j.After), roomyPlaces(j.Rows)
	}
	own := given[:len(list)]
	if list == nil {
		own = nil
	}
	call(own)
	for i, j := range list {
		if !sameJob(given[i], j) || !keptPlaces(given[i].After, j.After) || !keptPlaces(given[i].Rows, j.Rows) {
			t.Errorf("%s: the Job at %d was changed", what, i)
		}
	}
	if !sameJob(given[len(list)], behind) {
		t.Errorf("%s: what lies behind the Jobs was changed", what)
	}
}

// wrongAfters are refused of a Job at place 3.
func wrongAfters() map[string][]int64 {
	wrong := map[string][]int64{
		"its own place":        {3},
		"a place behind":       {4},
		"one behind the last":  {5},
		"two alike":            {1, 1},
		"falling ones":         {2, 1},
		"the last one falls":   {0, 2, 1},
		"a good one and below": {-1, 1},
		"a good one and own":   {0, 3},
		"all and own":          {0, 1, 2, 3},
		"more than there are":  {0, 0, 1, 2},
	}
	for what, n := range beside(0, 2) {
		wrong["one that is "+what] = []int64{n}
	}
	return wrong
}

func wrongRowLists() map[string][]int64 {
	wrong := map[string][]int64{
		"two alike":          {1, 1},
		"falling ones":       {5, 4},
		"the last one falls": {0, 9, 8},
		"below and a good":   {-1, 0},
		"a good and above":   {99, 100},
		"from below on":      rowsFrom(-1, 100),
		"up to above":        rowsFrom(1, 100),
		"one too many":       rowsFrom(0, 101),
		"many alike":         numbers(5, 401),
	}
	for what, n := range beside(0, 99) {
		wrong["one that is "+what] = []int64{n}
	}
	return wrong
}

// wrongJobs are right but for what their names say.
func wrongJobs() map[string][]impl.Job {
	wrong := map[string][]impl.Job{"one of nothing": {{}}}
	add := func(what string, change func(list []impl.Job)) {
		wrong[what] = changedJobs(site(), change)
	}
	for place := range site() {
		at := " at " + decimal(int64(place))
		for what, n := range beside(1, 30) {
			add("Days"+at+" is "+what, func(list []impl.Job) { list[place].Days = n })
		}
		for what, n := range beside(1, 20) {
			add("Crew"+at+" is "+what, func(list []impl.Job) { list[place].Crew = n })
		}
		for what, rows := range wrongRowLists() {
			add("Rows"+at+": "+what, func(list []impl.Job) { list[place].Rows = rows })
		}
		add("After"+at+" is its own place", func(list []impl.Job) { list[place].After = []int64{int64(place)} })
		add("After"+at+" is -1", func(list []impl.Job) { list[place].After = []int64{-1} })
	}
	for what, after := range wrongAfters() {
		add("After: "+what, func(list []impl.Job) { list[3].After = after })
	}
	add("the first one comes after the second", func(list []impl.Job) { list[0].After = []int64{1} })
	for _, count := range []int{impl.MaxJobs + 1, impl.MaxList} {
		wrong[decimal(int64(count))+" Jobs"] = manyJobs(count, job(1, 1))
	}
	last := manyJobs(impl.MaxJobs, job(1, 1))
	last[impl.MaxJobs-1].After = []int64{impl.MaxJobs - 1}
	wrong["the last of MaxJobs comes after itself"] = last
	return wrong
}

// afterAll are so many Jobs, each of which comes after all that are ahead of it.
func afterAll(count int, each impl.Job) []impl.Job {
	list := manyJobs(count, each)
	for i := range list {
		list[i].After = rowsFrom(0, i)
	}
	return list
}

// rightJobs are at the limits, or of little.
func rightJobs() map[string][]impl.Job {
	return map[string][]impl.Job{
		"none, nil":          nil,
		"none":               {},
		"a site":             site(),
		"one at its least":   {job(1, 1)},
		"one at its most":    {withRows(job(30, 20), rowsFrom(0, 100)...)},
		"Rows at both ends":  {withRows(job(1, 1), 0), withRows(job(1, 1), 99), withRows(job(1, 1), 0, 99)},
		"empty lists":        {{Days: 1, Crew: 1, After: []int64{}, Rows: []int64{}}},
		"MaxJobs":            manyJobs(impl.MaxJobs, job(1, 1)),
		"MaxJobs, each last": afterAll(impl.MaxJobs, job(30, 20)),
		"after the first":    {job(1, 1), job(1, 1, 0), job(1, 1, 0), job(1, 1, 0, 2)},
	}
}

func sameJobsRight(t *testing.T, what string, list []impl.Job, want bool) {
	t.Helper()
	watchedJobs(t, "JobsRight, "+what, list, func(list []impl.Job) {
		if got := impl.JobsRight(list); got != want {
			t.Errorf("JobsRight, %s: got %v of %+v", what, got, list)
		}
	})
}

func TestJobsRight(t *testing.T) {
	for what, list := range rightJobs() {
		sameJobsRight(t, what, list, true)
	}
	for what, list := range wrongJobs() {
		sameJobsRight(t, what, list, false)
	}
	sameJobsRight(t, "too many", manyJobs(impl.MaxList+1, job(1, 1)), false)
}

// TestJobsRightAfters asks for each pair of places of a Job that has two ahead of it.
func TestJobsRightAfters(t *testing.T) {
	for first := int64(-2); first <= 4; first++ {
		sameJobsRight(t, "one After", []impl.Job{job(1, 1), job(1, 1), job(1, 1, first), job(1, 1)}, first == 0 || first == 1)
		for second := int64(-2); second <= 4; second++ {
			list := []impl.Job{job(1, 1), job(1, 1), job(1, 1, first, second), job(1, 1)}
			sameJobsRight(t, "two Afters", list, first == 0 && second == 1)
		}
	}
}

func anyDays(random *rand.Rand, most int64) int64 {
	return 1 + anyNumber(random, most-1)
}

// anyPlaces are rising numbers from 0 to below count, each there one time in so many.
func anyPlaces(random *rand.Rand, count int64, seldom int) []int64 {
	var list []int64
	for n := range count {
		if random.Intn(seldom) == 0 {
			list = append(list, n)
		}
	}
	return list
}

// anyJobs are right; they differ in how much each of days, people, others and Rows is in the way.
func anyJobs(random *rand.Rand, most int) []impl.Job {
	days, crew := 1+random.Int63n(30), 1+random.Int63n(20)
	rows, after, shut := 1+random.Int63n(100), 1+random.Intn(40), 1+random.Intn(30)
	list := make([]impl.Job, random.Intn(most+1))
	for i := range list {
		list[i] = job(anyDays(random, days), anyDays(random, crew), anyPlaces(random, int64(i), after)...)
		list[i].Rows = anyPlaces(random, rows, shut)
	}
	return list
}

// mostCrew is the least crew by which there is a plan.
func mostCrew(list []impl.Job) int64 {
	most := int64(0)
	for _, j := range list {
		most = max(most, j.Crew)
	}
	return most
}

func TestJobsRightOfAny(t *testing.T) {
	random := rand.New(rand.NewSource(170))
	for range 2000 {
		sameJobsRight(t, "any", anyJobs(random, impl.MaxJobs), true)
	}
}
