package tests

import (
	"math/rand"
	"regexp"
	"slices"
	"strings"
	"sync"
	"testing"

	"loop.example/g00068/impl"
)

func lines(list ...string) string {
	text := ""
	for _, line := range list {
		text += line + "\n"
	}
	return text
}

func wrongAt(line int) impl.DeskOut {
	return impl.DeskOut{Line: int64(line), Code: impl.ErrSyntax}
}

func shortly(text string) string {
	if len(text) > 300 {
		return text[:300] + ".."
	}
	return text
}

// sameDesk asks twice, since nothing may be kept, and DeskFault for the same without its Text.
func sameDesk(t *testing.T, what string, text string, want impl.DeskOut) {
	t.Helper()
	for range 2 {
		if got := impl.DeskRun(text); got != want {
			t.Errorf("DeskRun, %s: got %+v, want %+v, of %q", what, got, want, shortly(text))
		}
	}
	want.Text = ""
	if got := impl.DeskFault(text); got != want {
		t.Errorf("DeskFault, %s: got %+v, want %+v, of %q", what, got, want, shortly(text))
	}
}

// talk has a line and what is told of it, with > between, in each of its list.
func talk(t *testing.T, what string, list ...string) {
	t.Helper()
	var text, told []string
	for _, both := range list {
		line, answer, _ := strings.Cut(both, " > ")
		text, told = append(text, line), append(told, answer)
	}
	out := impl.DeskRun(lines(text...))
	if out.Code != impl.OK || out.Line != 0 {
		t.Errorf("%s: got Code %d, Line %d", what, out.Code, out.Line)
		return
	}
	got := strings.Split(out.Text, "\n")
	if len(got) != len(told)+1 || got[len(told)] != "" {
		t.Errorf("%s: got %d lines, not %d: %q", what, len(got)-1, len(told), out.Text)
		return
	}
	for i, answer := range told {
		if got[i] != answer {
			t.Errorf("%s, line %d, %s: got %q, want %q", what, i, text[i], got[i], answer)
		}
	}
}

// lineForms are the lines of chapter 26.
func lineForms() []string {
	return []string{
		"store NAME N N", "day NAME N N", "meter NAME N N N N", "read NAME N W", "tariff N N N N", "bill NAME N",
		"pay NAME N", "places N ..", "source N", "row N N N", "shut N", "link N N", "note W", "poll N", "alarm W W N",
		"value W", "see", "shelve N", "frac W N W N",
	}
}

// slotTexts are what may stand in a slot.
func slotTexts(slot string) []string {
	switch slot {
	case "NAME":
		return append(rightNames(), append(progWords(), impl.DeskWords()...)...)
	case "N":
		return []string{"0", "1", "9", "10", "99", "200001", "999999", "1000000"}
	case "W":
		return []string{"0", "1", "-1", "-9", "-10", "30", "999999", "1000000", "-999999", "-1000000"}
	}
	return nil
}

// wrongSlotTexts are none, whatever they would stand for elsewhere.
func wrongSlotTexts(slot string) []string {
	if slot == "NAME" {
		texts := []string{"0", "-1", "NAME"}
		for _, name := range wrongNames() {
			if len(name) < 100 && !strings.Contains(name, "\n") && !slices.Contains(progWords(), name) {
				texts = append(texts, name)
			}
		}
		return texts
	}
	texts := []string{
		"", " ", "-", "+", "a", "N", "W", "x", "00", "01", "-0", "-00", "-01", "+0", "+1", "--1", "1-", "1+", " 1", "1 ", "1\r", "1\t", "\t1",
		"1.0", "1.", ".1", "1,0", "1_0", "1e3", "0x1", "0b1", "0o1", "1\x00", "\x001", "٣", "１", "−1", "1/1",
		"1000001", "-1000001", "9999999", "2147483648", "9223372036854775807", "9223372036854775808", "-9223372036854775808",
		"-9223372036854775809", "18446744073709551616", "18446744073709551617", strings.Repeat("1", 200), "0000001", "01000000",
	}
	if slot == "N" {
		texts = append(texts, "-1", "-10", "-1000000")
	}
	return texts
}

// filled is a right line of the form.
func filled(form string) []string {
	var words []string
	for i, slot := range strings.Fields(form) {
		switch {
		case i == 0:
			words = append(words, slot)
		case slot == "..":
			words = append(words, "3", "2")
		default:
			words = append(words, slotTexts(slot)[0])
		}
	}
	return words
}

func replaced(words []string, at int, word string) string {
	words = slices.Clone(words)
	words[at] = word
	return strings.Join(words, " ")
}

// rightLines are lines of all forms, each of whose slots has each text that may stand there.
func rightLines() []string {
	list := []string{"places 0", "places 0 0", "places " + strings.Repeat("1000000 ", 500) + "0"}
	for _, form := range lineForms() {
		words := filled(form)
		list = append(list, strings.Join(words, " "))
		for i, slot := range strings.Fields(form)[1:] {
			for _, text := range slotTexts(slot) {
				list = append(list, replaced(words, i+1, text))
			}
		}
	}
	return list
}

// strayLines are none of the table's.
func strayLines() []string {
	list := []string{
		"", " ", "x", "stores a 1 1", "stor a 1 1", "places", "places ", "error 1", "ok", "NAME", "N", "..", "# see", "see\x00", "\xff", "see;see", "\r", "\t",
		"store", "store a", "store a 1", "store a 1 1 1", "store 1 1", "store 1 1 a", "see 0", "see see", "day a 1", "frac 1/2 1/3", "frac 1 2 3",
		"read a 1", "read a 1 1 1", "tariff a 1 1 1", "tariff 1 1 1", "tariff 1 1 1 1 1", "row 0 1", "row 0 1 1 1", "alarm 1 1", "alarm 1 1 1 1",
		"places 1 ..", "places N", "places 1  1", "places a", "value", "value 1 1", "link 1", "link 1 1 1", "poll", "note", "shelve", "shut", "source",
		"alarm 1 1 -1", "frac 1 -1 1 1", "frac 1 1 1 -1", "store a 1 -1", "day a -1 1", "read a -1 1", "meter a 3 1 1 -1",
	}
	for _, form := range lineForms() {
		words := filled(form)
		whole := strings.Join(words, " ")
		list = append(list,
			" "+whole, whole+" ", whole+"\r", whole+"\t", strings.Replace(whole, " ", "\t", 1)+"\t", "x"+whole, strings.ToUpper(words[0])+whole[len(words[0]):],
			whole+" x", strings.Join(words[1:], " "), words[0]+"s"+whole[len(words[0]):], words[0][1:]+whole[len(words[0]):], words[0]+"  "+strings.Join(words[1:], " "),
		)
		for i, slot := range strings.Fields(form)[1:] {
			for _, text := range wrongSlotTexts(slot) {
				if slot != ".." {
					list = append(list, replaced(words, i+1, text))
				}
			}
		}
	}
	for _, text := range wrongSlotTexts("N") {
		list = append(list, "places "+text, "places 1 "+text, "places 1 2 "+text+" 4")
	}
	return list
}

func TestDeskNumbers(t *testing.T) {
	if impl.MaxLines != 200 || impl.MaxTowns != 20 {
		t.Errorf("MaxLines %d, MaxTowns %d", impl.MaxLines, impl.MaxTowns)
	}
}

func TestDeskRightLines(t *testing.T) {
	for _, line := range rightLines() {
		out := impl.DeskRun(line + "\n")
		if out.Code != impl.OK || out.Line != 0 || strings.Count(out.Text, "\n") != 1 || !strings.HasSuffix(out.Text, "\n") {
			t.Errorf("got %+v of %q", out, shortly(line))
		}
		sameDesk(t, "a right line", line+"\n", out)
	}
}

func TestDeskStrayLines(t *testing.T) {
	if count := len(strayLines()); count < 1500 {
		t.Errorf("%d stray lines", count)
	}
	for i, line := range strayLines() {
		sameDesk(t, "a stray line", line+"\n", wrongAt(0))
		ahead := i % 7
		text := strings.Repeat("see\n", ahead) + line + "\n" + "value 1\n"
		sameDesk(t, "a stray line behind others", text, wrongAt(ahead))
	}
}

// plainForms are the table of chapter 26 as one pattern.
var plainForms = regexp.MustCompile(func() string {
	var forms []string
	for _, form := range lineForms() {
		form = strings.ReplaceAll(form, "N ..", "N( N)*")
		form = regexp.MustCompile(`NAME|N|W`).ReplaceAllStringFunc(form, func(slot string) string {
			switch slot {
			case "NAME":
				return `[a-z][a-z0-9-]{0,19}`
			case "N":
				return `(0|[1-9][0-9]{0,5}|1000000)`
			}
			return `(0|-?[1-9][0-9]{0,5}|-?1000000)`
		})
		forms = append(forms, form)
	}
	return `\A(` + strings.Join(forms, "|") + `)\z`
}())

func plainLineRight(line string) bool {
	return plainForms.MatchString(line)
}

// plainDeskFault goes by the words of chapter 26.
func plainDeskFault(text string) impl.DeskOut {
	if len(text) > impl.MaxBytes {
		return impl.DeskOut{Code: impl.ErrSize}
	}
	all := strings.SplitAfter(text, "\n")
	for i, line := range all {
		bare, ended := strings.CutSuffix(line, "\n")
		if i == len(all)-1 && bare == "" && !ended {
			break
		}
		if i >= impl.MaxLines || !ended || !plainLineRight(bare) {
			return wrongAt(i)
		}
	}
	return impl.DeskOut{}
}

func sameDeskFault(t *testing.T, text string) impl.DeskOut {
	t.Helper()
	want := plainDeskFault(text)
	if got := impl.DeskFault(text); got != want {
		t.Errorf("DeskFault: got %+v, want %+v, of %q", got, want, shortly(text))
	}
	out := impl.DeskRun(text)
	if out.Code != want.Code || out.Line != want.Line || out.Code != impl.OK && out.Text != "" {
		t.Errorf("DeskRun: got %+v, want %+v, of %q", out, want, shortly(text))
	}
	return want
}

// TestDeskLinesAllShort: all texts of up to five of a few bytes.
func TestDeskLinesAllShort(t *testing.T) {
	const bytes = "se \n1-"
	texts := []string{""}
	right := 0
	for range 6 {
		var next []string
		for _, text := range texts {
			if sameDeskFault(t, text).Code == impl.OK {
				right++
			}
			for _, b := range bytes {
				next = append(next, text+string(b))
			}
		}
		texts = next
	}
	if right != 2 {
		t.Errorf("%d right texts, not 2: none, and see", right)
	}
}

// anyDeskLines are right ones.
func anyDeskLines(random *rand.Rand, right []string) string {
	var list []string
	for range []int{1, 3, random.Intn(20), 195 + random.Intn(10)}[random.Intn(4)] {
		list = append(list, right[random.Intn(len(right))])
	}
	return lines(list...)
}

func garbled(random *rand.Rand, text string) string {
	const bytes = "  \n\n0189--az\r\x00\xffA"
	if text == "" {
		return "\n"
	}
	at := random.Intn(len(text))
	one := string(bytes[random.Intn(len(bytes))])
	switch random.Intn(4) {
	case 0:
		return text[:at] + text[at+1:]
	case 1:
		return text[:at] + one + text[at+1:]
	case 2:
		return text[:at] + one + text[at:]
	}
	return text[:at]
}

func TestDeskLinesOfAny(t *testing.T) {
	random := rand.New(rand.NewSource(250))
	right := slices.DeleteFunc(rightLines(), func(line string) bool { return len(line) > 60 })
	codes, places := map[int64]int{}, map[int64]bool{}
	for range 20000 {
		text := anyDeskLines(random, right)
		for range random.Intn(3) {
			text = garbled(random, text)
		}
		out := sameDeskFault(t, text)
		codes[out.Code]++
		places[out.Line] = true
	}
	if codes[impl.OK] < 4000 || codes[impl.ErrSyntax] < 4000 || len(places) < 150 {
		t.Errorf("codes %v, %d places: too few to tell", codes, len(places))
	}
}

func TestDeskMaxLines(t *testing.T) {
	see := func(count int) string { return strings.Repeat("see\n", count) }
	told := func(count int) impl.DeskOut { return impl.DeskOut{Text: strings.Repeat("error 9\n", count)} }
	sameDesk(t, "200 lines", see(200), told(200))
	sameDesk(t, "199 lines", see(199), told(199))
	sameDesk(t, "201 lines", see(201), wrongAt(200))
	sameDesk(t, "4000 lines", see(4000), wrongAt(200))
	sameDesk(t, "200 lines and no line feed", see(199)+"see", wrongAt(199))
	sameDesk(t, "200 lines and a piece", see(200)+"s", wrongAt(200))
	sameDesk(t, "200 lines and an empty one", see(200)+"\n", wrongAt(200))
	sameDesk(t, "200 lines and a stray one", see(200)+"x\n", wrongAt(200))
	sameDesk(t, "201 lines, the last without a line feed", see(200)+"see", wrongAt(200))
	sameDesk(t, "250 lines, the last without a line feed", see(249)+"see", wrongAt(200))
	sameDesk(t, "250 lines, a stray one beyond the most", see(240)+"x\n"+see(9), wrongAt(200))
	sameDesk(t, "250 lines, a stray one within the most", see(199)+"x\n"+see(50), wrongAt(199))
	sameDesk(t, "250 lines, the first one stray", "x\n"+see(249), wrongAt(0))
	sameDesk(t, "250 empty lines", strings.Repeat("\n", 250), wrongAt(0))
}

func TestDeskLineEnds(t *testing.T) {
	sameDesk(t, "no line", "", impl.DeskOut{})
	sameDesk(t, "a line feed alone", "\n", wrongAt(0))
	sameDesk(t, "one line", "see\n", impl.DeskOut{Text: "error 9\n"})
	sameDesk(t, "no line feed", "see", wrongAt(0))
	sameDesk(t, "no line feed in the end", "see\nsee\nsee", wrongAt(2))
	sameDesk(t, "no line feed behind a stray end", "see\nsee\nx", wrongAt(2))
	sameDesk(t, "a stray line ahead of that", "see\nx\nsee", wrongAt(1))
	sameDesk(t, "a line feed more", "see\n\n", wrongAt(1))
	sameDesk(t, "a line feed ahead", "\nsee\n", wrongAt(0))
	sameDesk(t, "a return", "see\r\nsee\r\n", wrongAt(0))
	sameDesk(t, "a return alone", "see\rsee\r", wrongAt(0))
	sameDesk(t, "a blank at the end", "see\n ", wrongAt(1))
	sameDesk(t, "several stray ones", "see\nsee\nx\ny\nz\n", wrongAt(2))
	sameDesk(t, "nothing is done of a text with a stray line", "store a 1 1\nstore b 1 1\nx\n", wrongAt(2))
}

func TestDeskMaxBytes(t *testing.T) {
	long := "places " + strings.Repeat("1 ", 9995) + "10\n"
	if len(long) != impl.MaxBytes {
		t.Fatalf("%d bytes", len(long))
	}
	sameDesk(t, "as many bytes as may be", long, impl.DeskOut{Text: "error 1\n"})
	tooLong := impl.DeskOut{Code: impl.ErrSize}
	sameDesk(t, "one byte more", strings.Replace(long, "10", "100", 1), tooLong)
	sameDesk(t, "as many stray bytes", strings.Repeat("x", impl.MaxBytes), wrongAt(0))
	sameDesk(t, "one stray byte more", strings.Repeat("x", impl.MaxBytes+1), tooLong)
	sameDesk(t, "one line feed more", strings.Repeat("\n", impl.MaxBytes+1), tooLong)
	sameDesk(t, "as many in lines", strings.Repeat("see\n", impl.MaxBytes/4), wrongAt(200))
	sameDesk(t, "more in lines", strings.Repeat("see\n", impl.MaxBytes/4)+"s", tooLong)
	sameDesk(t, "very long", strings.Repeat("see\n", 100000), tooLong)
	sameDesk(t, "one number of all bytes", "value "+strings.Repeat("1", impl.MaxBytes-7)+"\n", wrongAt(0))
}

func TestDeskWords(t *testing.T) {
	want := []string{
		"alarm", "bill", "day", "frac", "link", "meter", "note", "pay", "places", "poll", "read", "row", "see", "shelve", "shut", "source",
		"store", "tariff", "value",
	}
	for range 3 {
		got := impl.DeskWords()
		if !slices.Equal(got, want) {
			t.Errorf("got %q, want %q", got, want)
		}
		for i := range got {
			got[i] = "x"
		}
	}
	for _, line := range rightLines() {
		if word, _, _ := strings.Cut(line, " "); !slices.Contains(want, word) {
			t.Errorf("%q begins with none of the words", line)
		}
	}
}

// TestDeskAtTheSameTime: desks share nothing.
func TestDeskAtTheSameTime(t *testing.T) {
	var waits sync.WaitGroup
	for i := range 16 {
		waits.Go(func() {
			first := decimal(int64(i) + 1)
			text := lines("store a "+first+" 0", "day a "+first+" 0", "note 1", "link "+first+" 0", "note "+first, "poll 1")
			want := lines("ok", "given 0 spill 0 short 0 volume "+first, "error 9", "ok", "waits 1", "notes 1 gaps 0")
			for range 50 {
				if got := impl.DeskRun(text); got.Text != want {
					t.Errorf("got %+v", got)
				}
			}
		})
	}
	waits.Wait()
}
