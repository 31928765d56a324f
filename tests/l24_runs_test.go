package tests

import (
	"math/rand"
	"runtime"
	"slices"
	"sync"
	"testing"
	"time"

	"loop.example/g00068/impl"
)

func letter(name string, number int64, state int64) impl.Letter {
	return impl.Letter{Name: name, Number: number, State: state}
}

func noticeFault(code int64) impl.NoticeOut {
	return impl.NoticeOut{Code: code}
}

func sent(waits int64, letters ...impl.Letter) impl.NoticeOut {
	return impl.NoticeOut{Letters: letters, Waits: waits}
}

// unlike leaves out the Letters ahead that are the same in both, of which there may be very many.
func unlike(got []impl.Letter, want []impl.Letter) ([]impl.Letter, []impl.Letter) {
	for len(got) > 0 && len(want) > 0 && got[0] == want[0] {
		got, want = got[1:], want[1:]
	}
	return got[:min(5, len(got))], want[:min(5, len(want))]
}

func sameNoticeOut(t *testing.T, what string, got impl.NoticeOut, want impl.NoticeOut) {
	t.Helper()
	if got.Code != want.Code || got.Waits != want.Waits {
		t.Errorf("%s: got Code %d, Waits %d, want %d, %d", what, got.Code, got.Waits, want.Code, want.Waits)
	}
	if !slices.Equal(got.Letters, want.Letters) {
		first, second := unlike(got.Letters, want.Letters)
		t.Errorf("%s: got %d Letters, want %d: from the first unlike one on %+v, not %+v", what, len(got.Letters), len(want.Letters), first, second)
	}
}

func spoilLetters(list []impl.Letter) {
	for i := range list {
		list[i] = letter("-9", -9, -9)
	}
}

// sameNoticeRun calls with homes and notices of its own, and tells if these were changed. What is told is
// written over, so that the next answer would show what is kept.
func sameNoticeRun(t *testing.T, what string, homes []impl.Home, list []impl.Notice, want impl.NoticeOut) {
	t.Helper()
	what = "NoticeRun, " + what
	watchedHomes(t, what, homes, func(homes []impl.Home) {
		t.Helper()
		watchedNotices(t, what, list, func(list []impl.Notice) {
			t.Helper()
			for range 2 {
				got := impl.NoticeRun(homes, list)
				sameNoticeOut(t, what, got, want)
				spoilLetters(got.Letters)
			}
		})
	})
}

// couple is two homes, each in an area of its own.
func couple() []impl.Home {
	return []impl.Home{homeIn("b", 1), homeIn("a", 2)}
}

// TestNoticeRunByHand tells of each kind of Letter by itself.
func TestNoticeRunByHand(t *testing.T) {
	f := flushAll()
	for _, c := range []struct {
		what string
		list []impl.Notice
		want impl.NoticeOut
	}{
		{"nothing", nil, sent(0)},
		{"an empty list", []impl.Notice{}, sent(0)},
		{"a Flush of nothing", []impl.Notice{f}, sent(0)},
		{"not sent", []impl.Notice{incident(1, 3, 1)}, sent(1)},
		{"not sent to both", []impl.Notice{incident(1, 3, 1, 2)}, sent(2)},
		{"sent to the one", []impl.Notice{incident(1, 3, 1), f}, sent(0, letter("b", 1, 3))},
		{"sent to the other one", []impl.Notice{incident(1, 3, 2), f}, sent(0, letter("a", 1, 3))},
		{"sent to both, by the order of homes", []impl.Notice{incident(1, 3, 1, 2), f}, sent(0, letter("b", 1, 3), letter("a", 1, 3))},
		{"sent nowhere", []impl.Notice{incident(1, 3), f}, sent(0)},
		{"sent where nobody lives", []impl.Notice{incident(1, 3, 0, 3, 99), f}, sent(0)},
		{"sent once", []impl.Notice{incident(1, 3, 1), f, f, f}, sent(0, letter("b", 1, 3))},
		{"said again", []impl.Notice{incident(1, 3, 1), f, incident(1, 3, 1), f}, sent(0, letter("b", 1, 3))},
		{"said again ahead of a Flush", []impl.Notice{incident(1, 3, 1), incident(1, 3, 1), f}, sent(0, letter("b", 1, 3))},
		{"another State ahead of a Flush", []impl.Notice{incident(1, 3, 1), incident(1, 4, 1), f}, sent(0, letter("b", 1, 4))},
		{"another State behind a Flush", []impl.Notice{incident(1, 3, 1), f, incident(1, 4, 1), f}, sent(0, letter("b", 1, 3), letter("b", 1, 4))},
		{"there and back between Flushes", []impl.Notice{incident(1, 3, 1), f, incident(1, 4, 1), incident(1, 3, 1), f}, sent(0, letter("b", 1, 3))},
		{"over ahead of all Flushes", []impl.Notice{incident(1, 3, 1), incident(1, 0, 1), f}, sent(0)},
		{"over from the first", []impl.Notice{incident(1, 0, 1), f}, sent(0)},
		{"over from the first, not sent", []impl.Notice{incident(1, 0, 1)}, sent(0)},
		{"over", []impl.Notice{incident(1, 3, 1), f, incident(1, 0, 1), f}, sent(0, letter("b", 1, 3), letter("b", 1, 0))},
		{"over, not sent", []impl.Notice{incident(1, 3, 1), f, incident(1, 0, 1)}, sent(1, letter("b", 1, 3))},
		{"over, said again", []impl.Notice{incident(1, 3, 1), f, incident(1, 0, 1), f, incident(1, 0, 1), f}, sent(0, letter("b", 1, 3), letter("b", 1, 0))},
		{"over for all, told to one", []impl.Notice{incident(1, 3, 2), f, incident(1, 0, 1, 2), f}, sent(0, letter("a", 1, 3), letter("a", 1, 0))},
		{"over elsewhere", []impl.Notice{incident(1, 3, 1), f, incident(1, 0, 2), f}, sent(0, letter("b", 1, 3), letter("b", 1, 0))},
		{"open once more", []impl.Notice{incident(1, 3, 1), f, incident(1, 0, 1), f, incident(1, 3, 1), f}, sent(0, letter("b", 1, 3), letter("b", 1, 0), letter("b", 1, 3))},
		{"no more to know", []impl.Notice{incident(1, 3, 1, 2), f, incident(1, 3, 2), f}, sent(0, letter("b", 1, 3), letter("a", 1, 3), letter("b", 1, 0))},
		{"no more to know, not sent", []impl.Notice{incident(1, 3, 1, 2), f, incident(1, 3)}, sent(2, letter("b", 1, 3), letter("a", 1, 3))},
		{"no more to know, told nothing", []impl.Notice{incident(1, 3, 1), incident(1, 3, 2), f}, sent(0, letter("a", 1, 3))},
		{"no more to know, said again", []impl.Notice{incident(1, 3, 1), f, incident(1, 3), f, incident(1, 4), f}, sent(0, letter("b", 1, 3), letter("b", 1, 0))},
		{"no more to know, then to know again", []impl.Notice{incident(1, 3, 1), f, incident(1, 3), f, incident(1, 3, 1), f}, sent(0, letter("b", 1, 3), letter("b", 1, 0), letter("b", 1, 3))},
		{"no more to know, then to know again ahead of a Flush", []impl.Notice{incident(1, 3, 1), f, incident(1, 3), incident(1, 3, 1), f}, sent(0, letter("b", 1, 3))},
		{"no more to know, then over", []impl.Notice{incident(1, 3, 1), f, incident(1, 3), f, incident(1, 0, 1), f}, sent(0, letter("b", 1, 3), letter("b", 1, 0))},
		{"moved from the one to the other", []impl.Notice{incident(1, 3, 1), f, incident(1, 3, 2), f}, sent(0, letter("b", 1, 3), letter("b", 1, 0), letter("a", 1, 3))},
		{"moved the other way", []impl.Notice{incident(1, 3, 2), f, incident(1, 3, 1), f}, sent(0, letter("a", 1, 3), letter("b", 1, 3), letter("a", 1, 0))},
		{"two Numbers, rising", []impl.Notice{incident(9, 3, 1), incident(2, 4, 1), f}, sent(0, letter("b", 2, 4), letter("b", 9, 3))},
		{"Numbers rise as numbers", []impl.Notice{incident(10, 3, 1), incident(9, 4, 1), incident(99, 5, 1), f}, sent(0, letter("b", 9, 4), letter("b", 10, 3), letter("b", 99, 5))},
		{"home by home, not Number by Number", []impl.Notice{incident(2, 3, 1, 2), incident(1, 4, 1, 2), f}, sent(0, letter("b", 1, 4), letter("b", 2, 3), letter("a", 1, 4), letter("a", 2, 3))},
		{"one Number does not mind another one", []impl.Notice{incident(1, 3, 1), f, incident(2, 0, 1), incident(2, 5), f}, sent(0, letter("b", 1, 3))},
		{"not to know and to know, by Numbers", []impl.Notice{incident(1, 3, 1), incident(3, 3, 1), f, incident(1, 3), incident(2, 3, 1), incident(3, 3), f},
			sent(0, letter("b", 1, 3), letter("b", 3, 3), letter("b", 1, 0), letter("b", 2, 3), letter("b", 3, 0))},
		{"behind the last Flush", []impl.Notice{incident(1, 3, 1), f, incident(1, 4, 1, 2), incident(2, 0, 1, 2)}, sent(2, letter("b", 1, 3))},
		{"waits no more", []impl.Notice{incident(1, 3, 1), f, incident(1, 4, 1), incident(1, 3, 1)}, sent(0, letter("b", 1, 3))},
	} {
		sameNoticeRun(t, c.what, couple(), c.list, c.want)
	}
}

func TestNoticeRunVillage(t *testing.T) {
	list := []impl.Notice{
		incident(12, 9, 0, 1, 7, 99), incident(3, 1, 2, 7), incident(12, 5, 0, 7), flushAll(),
		incident(3, 0, 0, 2), incident(12, 5, 0, 2, 7), incident(1, 2, eachArea()...), incident(1, 3, 99), flushAll(),
		incident(12, 0, eachArea()...), incident(1, 0),
	}
	told := []impl.Letter{
		letter("mill", 3, 1), letter("mill", 12, 5), letter("farm", 3, 1), letter("school", 3, 1), letter("school", 12, 5), letter("inn", 12, 5),
		letter("mill", 3, 0), letter("farm", 3, 0), letter("farm", 12, 5), letter("school", 3, 0), letter("chapel", 1, 3),
	}
	for count, want := range map[int]impl.NoticeOut{
		0: sent(0), 1: sent(4), 2: sent(7), 3: sent(6), 4: sent(0, told[:6]...), 5: sent(3, told[:6]...), 6: sent(4, told[:6]...),
		7: sent(9, told[:6]...), 8: sent(5, told[:6]...), 9: sent(0, told...), 10: sent(4, told...), 11: sent(5, told...),
	} {
		sameNoticeRun(t, "a village by "+decimal(int64(count)), village(), list[:count], want)
	}
}

func TestNoticeRunLimits(t *testing.T) {
	for what, homes := range rightHomes() {
		sameNoticeRun(t, what+", no notices", homes, nil, sent(0))
		var told []impl.Letter
		for _, h := range homes {
			told = append(told, letter(h.Name, 99, 9))
		}
		all := incident(99, 9, eachArea()...)
		sameNoticeRun(t, what+", told all", homes, []impl.Notice{all, flushAll()}, sent(0, told...))
		sameNoticeRun(t, what+", not sent", homes, []impl.Notice{all}, sent(int64(len(homes))))
	}
	for what, n := range bulletins() {
		want := sent(0)
		if n.State > 0 && slices.Contains(n.Areas, 1) {
			want = sent(0, letter("a", n.Number, n.State))
		}
		sameNoticeRun(t, what, []impl.Home{homeIn("a", 1)}, []impl.Notice{n, flushAll()}, want)
		sameNoticeRun(t, what+", no homes", nil, []impl.Notice{n, flushAll()}, sent(0))
	}
	for area := range int64(100) {
		homes := []impl.Home{homeIn("a", area)}
		sameNoticeRun(t, "only "+decimal(area), homes, []impl.Notice{incident(1, 1, area), flushAll()}, sent(0, letter("a", 1, 1)))
		others := slices.Delete(eachArea(), int(area), int(area)+1)
		sameNoticeRun(t, "all but "+decimal(area), homes, []impl.Notice{incident(1, 1, others...), flushAll()}, sent(0))
	}
}

// TestNoticeRunMaxList: as many notices as may be, and one more, which is told ahead of all that is wrong.
func TestNoticeRunMaxList(t *testing.T) {
	var list []impl.Notice
	var told []impl.Letter
	for i := range int64(impl.MaxList / 2) {
		list = append(list, incident(1+i%99, 1+i%8, 1), flushAll())
		told = append(told, letter("b", 1+i%99, 1+i%8))
	}
	size, form := noticeFault(impl.ErrSize), noticeFault(impl.ErrForm)
	sameNoticeRun(t, "MaxList notices", couple(), list, sent(0, told...))
	sameNoticeRun(t, "one more than MaxList", couple(), append(slices.Clone(list), flushAll()), size)
	sameNoticeRun(t, "no homes, one more than MaxList", nil, append(slices.Clone(list), flushAll()), size)
	for _, count := range []int{impl.MaxList + 1, 5000} {
		many := slices.Repeat([]impl.Notice{incident(1, 1, 1)}, count)
		for what, homes := range wrongHomes() {
			sameNoticeRun(t, "too many notices, "+what, homes, many, size)
		}
		for what, n := range wrongNotices() {
			many[count-1] = n
			sameNoticeRun(t, "too many notices, the last one: "+what, couple(), many, size)
			sameNoticeRun(t, "too many homes, "+what, manyHomes(count, 1), []impl.Notice{n}, size)
		}
		sameNoticeRun(t, "too many homes", manyHomes(count, 1), list, size)
		sameNoticeRun(t, "too many homes, no notices", manyHomes(count, 1), nil, size)
		sameNoticeRun(t, "too many homes without names", make([]impl.Home, count), nil, size)
		sameNoticeRun(t, "too many of both", make([]impl.Home, count), make([]impl.Notice, count), size)
	}
	sameNoticeRun(t, "MaxList homes", manyHomes(impl.MaxList, 1), nil, form)
	sameNoticeRun(t, "one home more than MaxHomes", manyHomes(impl.MaxHomes+1, 1), nil, form)
	sameNoticeRun(t, "MaxList of both, all wrong", make([]impl.Home, impl.MaxList), make([]impl.Notice, impl.MaxList), form)
}

func TestNoticeRunWrong(t *testing.T) {
	form := noticeFault(impl.ErrForm)
	good := []impl.Notice{incident(1, 3, 1), flushAll(), incident(2, 4, 1)}
	for what, homes := range wrongHomes() {
		sameNoticeRun(t, what+", no notices", homes, nil, form)
		sameNoticeRun(t, what, homes, good, form)
		sameNoticeRun(t, what+", a wrong notice", homes, []impl.Notice{{}}, form)
	}
	for what, n := range wrongNotices() {
		sameNoticeRun(t, what+", no homes", nil, []impl.Notice{n}, form)
		for place := range len(good) + 1 {
			sameNoticeRun(t, what+" at "+decimal(int64(place)), couple(), slices.Insert(slices.Clone(good), place, n), form)
		}
	}
}

// busyTown tells of as many Numbers to all of so many homes in the area 1, and sends that.
func busyTown(homes int, incidents int64) ([]impl.Home, []impl.Notice, []impl.Letter) {
	var list []impl.Notice
	var told []impl.Letter
	for number := int64(1); number <= incidents; number++ {
		list = append(list, incident(number, 5, 1, 2))
	}
	people := manyHomes(homes, 1)
	for _, h := range people {
		for number := int64(1); number <= incidents; number++ {
			told = append(told, letter(h.Name, number, 5))
		}
	}
	return people, append(list, flushAll()), told
}

func TestNoticeRunMaxTold(t *testing.T) {
	homes, list, told := busyTown(40, 50)
	over := noticeFault(impl.ErrOver)
	sameNoticeRun(t, "MaxTold Letters", homes, list, sent(0, told...))
	one := append(slices.Clone(homes), homeIn("one", 3))
	more := append(slices.Clone(list), incident(99, 1, 3))
	sameNoticeRun(t, "MaxTold Letters, and one that waits", one, more, sent(1, told...))
	sameNoticeRun(t, "one Letter too many", one, append(slices.Clone(more), flushAll()), over)
	sameNoticeRun(t, "one Letter too many at one Flush", one, slices.Insert(slices.Clone(list), 0, incident(99, 1, 3)), over)
	sameNoticeRun(t, "one Letter too many, and nothing behind it", one, append(slices.Clone(more), flushAll(), flushAll(), incident(99, 1, 3)), over)
	sameNoticeRun(t, "MaxTold, and many that wait", homes, append(slices.Clone(list), incident(1, 6, 1), incident(2, 0, 1), incident(3, 5)), sent(120, told...))
	for what, n := range wrongNotices() {
		sameNoticeRun(t, "too many Letters, then "+what, one, append(slices.Clone(more), flushAll(), n), noticeFault(impl.ErrForm))
	}
}

// TestNoticeRunMostLetters: of those that wait there may be more than MaxTold.
func TestNoticeRunMostLetters(t *testing.T) {
	homes, list, _ := busyTown(impl.MaxHomes, 99)
	over := noticeFault(impl.ErrOver)
	sameNoticeRun(t, "all wait", homes, list[:99], sent(60*99))
	sameNoticeRun(t, "all told", homes, list, over)
	sameNoticeRun(t, "all told, and all over", homes, slices.Concat(list, list, list, list), over)
	var turns []impl.Notice
	for i := range int64(impl.MaxList / 2) {
		turns = append(turns, incident(1, 1+i%2, 1), flushAll())
	}
	sameNoticeRun(t, "ten by turns", homes[:10], turns, plainNotices(homes[:10], turns))
	sameNoticeRun(t, "eleven by turns", homes[:11], turns, over)
	sameNoticeRun(t, "all by turns", homes, turns, over)
}

// plainLast is the last Letter to the home of the Number, if there is one.
func plainLast(letters []impl.Letter, name string, number int64) (impl.Letter, bool) {
	for _, l := range slices.Backward(letters) {
		if l.Name == name && l.Number == number {
			return l, true
		}
	}
	return impl.Letter{}, false
}

// plainFlush is told by the words of chapter 25: what a Flush sends behind the notices and Letters ahead.
func plainFlush(homes []impl.Home, ahead []impl.Notice, letters []impl.Letter) []impl.Letter {
	var more []impl.Letter
	for _, h := range homes {
		for number := int64(1); number <= 99; number++ {
			last, any := lastOf(ahead, number)
			if !any {
				continue
			}
			was, told := plainLast(letters, h.Name, number)
			knows := slices.Contains(last.Areas, h.Area)
			switch {
			case knows && told && was.State == last.State:
			case knows && (told || last.State != 0):
				more = append(more, letter(h.Name, number, last.State))
			case !knows && told && was.State != 0:
				more = append(more, letter(h.Name, number, 0))
			}
		}
	}
	return more
}

// plainNotices is for homes and notices that are right.
func plainNotices(homes []impl.Home, list []impl.Notice) impl.NoticeOut {
	var letters []impl.Letter
	for at, n := range list {
		if n.Flush {
			letters = append(letters, plainFlush(homes, list[:at], letters)...)
		}
	}
	if len(letters) > 2000 {
		return noticeFault(impl.ErrOver)
	}
	return sent(int64(len(plainFlush(homes, list, letters))), letters...)
}

// allRuns goes through all lists of so many of the notices.
func allRuns(size int, of []impl.Notice, call func(list []impl.Notice)) {
	count := 1
	for range size {
		count *= len(of)
	}
	for n := range count {
		var list []impl.Notice
		for range size {
			list = append(list, of[n%len(of)])
			n /= len(of)
		}
		call(list)
	}
}

// TestNoticeRunAllSmall goes through all short lists of few notices.
func TestNoticeRunAllSmall(t *testing.T) {
	few, more := []impl.Notice{flushAll()}, []impl.Notice{flushAll()}
	for _, areas := range [][]int64{nil, {1}, {2}, {1, 2}} {
		for _, state := range []int64{0, 3, 4} {
			few = append(few, incident(1, state, areas...))
			more = append(more, incident(1, state, areas...), incident(2, state, areas...))
		}
	}
	check := func(list []impl.Notice) {
		if got, want := impl.NoticeRun(couple(), list), plainNotices(couple(), list); got.Code != 0 || got.Waits != want.Waits || !slices.Equal(got.Letters, want.Letters) {
			t.Fatalf("NoticeRun of %+v: got %+v, want %+v", list, got, want)
		}
	}
	allRuns(4, few, check)
	allRuns(3, more, check)
	allRuns(3, few, func(list []impl.Notice) {
		f := flushAll()
		check([]impl.Notice{list[0], f, list[1], f, list[2], f})
		check([]impl.Notice{incident(1, 3, 1), f, list[0], list[1], f, list[2], f})
	})
}

func TestNoticeRunOfAny(t *testing.T) {
	random := rand.New(rand.NewSource(241))
	letters, waits, over := 0, 0, 0
	for range 400 {
		areas := 1 + random.Int63n(6)
		homes := anyHomes(random, random.Intn([]int{4, 12, impl.MaxHomes + 1}[random.Intn(3)]), areas)
		list := anyNotices(random, random.Intn([]int{10, 40, 100}[random.Intn(3)]), 1+random.Int63n([]int64{2, 6, 99}[random.Intn(3)]), areas)
		want := plainNotices(homes, list)
		sameNoticeRun(t, "any", homes, list, want)
		letters += len(want.Letters)
		waits += int(min(want.Waits, 1))
		over += int(want.Code / impl.ErrOver)
		if t.Failed() {
			t.Fatalf("of %+v by %+v", homes, list)
		}
	}
	if letters < 10000 || waits < 100 || over > 200 {
		t.Errorf("%d letters, %d that wait, %d over: too few to tell", letters, waits, over)
	}
}

// TestNoticeRunEndsItsSender: whatever is told of the Letters, nobody waits to send them.
func TestNoticeRunEndsItsSender(t *testing.T) {
	before := runtime.NumGoroutine()
	homes, list, _ := busyTown(impl.MaxHomes, 99)
	for range 20 {
		impl.NoticeRun(homes, list)
		impl.NoticeRun(couple(), list)
		impl.NoticeRun(couple(), nil)
		impl.NoticeFor(homes, list, "home1")
	}
	// One that has closed its channel may still have its last step ahead.
	for range 1000 {
		if runtime.NumGoroutine() <= before {
			return
		}
		time.Sleep(time.Millisecond)
	}
	t.Errorf("%d goroutines ahead, %d behind", before, runtime.NumGoroutine())
}

// TestNoticeRunAtTheSameTime: runs side by side do not mind each other.
func TestNoticeRunAtTheSameTime(t *testing.T) {
	random := rand.New(rand.NewSource(242))
	homes, list := anyHomes(random, 20, 5), anyNotices(random, 60, 5, 5)
	want := plainNotices(homes, list)
	got := make([]impl.NoticeOut, 16)
	var all sync.WaitGroup
	for i := range got {
		all.Go(func() { got[i] = impl.NoticeRun(homes, list) })
	}
	all.Wait()
	for _, out := range got {
		sameNoticeOut(t, "side by side", out, want)
	}
}
