package tests

import (
	"math/rand"
	"slices"
	"strings"
	"testing"

	"loop.example/g00068/impl"
)

// sameLetters writes over what is told, so that the next answer would show what is kept.
func sameLetters(t *testing.T, what string, homes []impl.Home, list []impl.Notice, name string, want ...impl.Letter) {
	t.Helper()
	what = "NoticeFor, " + what
	watchedHomes(t, what, homes, func(homes []impl.Home) {
		t.Helper()
		watchedNotices(t, what, list, func(list []impl.Notice) {
			t.Helper()
			for range 2 {
				got := impl.NoticeFor(homes, list, name)
				if !slices.Equal(got, want) {
					t.Errorf("%s: got %+v, want %+v", what, got, want)
				}
				spoilLetters(got)
			}
		})
	})
}

func TestNoticeForByHand(t *testing.T) {
	list := []impl.Notice{
		incident(9, 3, 1), incident(1, 2, 1, 2), flushAll(), incident(9, 3, 2), flushAll(), incident(1, 0, 1, 2), flushAll(), incident(4, 4, 1, 2),
	}
	sameLetters(t, "the first home", couple(), list, "b", letter("b", 1, 2), letter("b", 9, 3), letter("b", 9, 0), letter("b", 1, 0))
	sameLetters(t, "the last home", couple(), list, "a", letter("a", 1, 2), letter("a", 9, 3), letter("a", 1, 0))
	sameLetters(t, "nothing is sent", couple(), list[:2], "a")
	sameLetters(t, "nothing is said", couple(), nil, "a")
	sameLetters(t, "no homes", nil, list, "a")
	for what, name := range wrongNames() {
		sameLetters(t, "the name is "+what, couple(), list, name)
	}
	for _, name := range []string{"c", "A", "ab", "aa", "a ", " a", "a-", "b\n", strings.Repeat("a", impl.MaxBytes), strings.Repeat("a", impl.MaxBytes+1)} {
		sameLetters(t, "nobody's name", couple(), list, name)
	}
	alike := []impl.Home{homeIn("a", 1), homeIn("aa", 1), homeIn("a-a", 1)}
	for _, h := range alike {
		sameLetters(t, "names that begin others", alike, list[:3], h.Name, letter(h.Name, 1, 2), letter(h.Name, 9, 3))
	}
}

func TestNoticeForWrong(t *testing.T) {
	good := []impl.Notice{incident(1, 3, eachArea()...), flushAll()}
	for what, homes := range wrongHomes() {
		sameLetters(t, what, homes, good, homes[0].Name)
		sameLetters(t, what, homes, good, "farm")
	}
	for what, n := range wrongNotices() {
		sameLetters(t, what+" ahead", couple(), append([]impl.Notice{n}, good...), "a")
		sameLetters(t, what+" behind", couple(), append(slices.Clone(good), n), "a")
	}
	full := append(slices.Clone(good), slices.Repeat([]impl.Notice{flushAll()}, impl.MaxList-2)...)
	sameLetters(t, "MaxList notices", couple(), full, "a", letter("a", 1, 3))
	sameLetters(t, "one more than MaxList", couple(), append(full, flushAll()), "a")
	sameLetters(t, "MaxHomes", manyHomes(impl.MaxHomes, 7), good, "home59", letter("home59", 1, 3))
	for _, count := range []int{impl.MaxHomes + 1, impl.MaxList, impl.MaxList + 1} {
		sameLetters(t, "too many homes", manyHomes(count, 7), good, "home59")
	}
}

// TestNoticeForOver: of too many Letters none are told, even to a home with one.
func TestNoticeForOver(t *testing.T) {
	homes, list, told := busyTown(40, 50)
	homes = append(homes, homeIn("one", 3))
	list = append(list, incident(99, 1, 3))
	sameLetters(t, "MaxTold Letters", homes, list, "home0", told[:50]...)
	sameLetters(t, "MaxTold Letters, the last home", homes, list, "home39", told[1950:]...)
	sameLetters(t, "MaxTold Letters, one waits", homes, list, "one")
	list = append(list, flushAll())
	for _, name := range []string{"home0", "home39", "one"} {
		sameLetters(t, "one Letter too many", homes, list, name)
	}
}

// TestNoticeForOfAny: to each home go its Letters, and all of them together are those of NoticeRun.
func TestNoticeForOfAny(t *testing.T) {
	random := rand.New(rand.NewSource(243))
	for range 300 {
		areas := 1 + random.Int63n(6)
		homes := anyHomes(random, random.Intn(15), areas)
		list := anyNotices(random, random.Intn(60), 1+random.Int63n(9), areas)
		all := impl.NoticeRun(homes, list).Letters
		count := 0
		for _, h := range homes {
			mine := slices.DeleteFunc(slices.Clone(all), func(l impl.Letter) bool { return l.Name != h.Name })
			sameLetters(t, "any", homes, list, h.Name, mine...)
			count += len(mine)
		}
		if count != len(all) {
			t.Fatalf("%d letters of %d", count, len(all))
		}
	}
}
