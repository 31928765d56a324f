package tests

import (
	"math/rand"
	"slices"
	"strconv"
	"strings"
	"testing"

	"loop.example/g00068/impl"
)

func progFault(line int64) impl.ProgOut {
	return impl.ProgOut{Line: line, Code: impl.ErrSyntax}
}

func sameProgRead(t *testing.T, what string, text string, want impl.ProgOut) {
	t.Helper()
	got := impl.ProgRead(text)
	if got.Code != want.Code || got.Line != want.Line || !isProg(got.Prog, want.Prog) {
		t.Errorf("ProgRead, %s: got %+v, want %+v, of %q", what, got, want, text)
	}
}

func TestProgReadByHand(t *testing.T) {
	for text, want := range map[string]impl.Prog{
		"":                        {},
		"in a\n":                  progOf(blockIn("a")),
		"prev a a\n":              progOf(block(impl.BlockPrev, "a", 0, 0)),
		"prev a b\nin b\n":        progOf(block(impl.BlockPrev, "a", 1, 0), blockIn("b")),
		"prev a b\nprev b a\n":    progOf(block(impl.BlockPrev, "a", 1, 0), block(impl.BlockPrev, "b", 0, 0)),
		"prev a b\nprev b b\n":    progOf(block(impl.BlockPrev, "a", 1, 0), block(impl.BlockPrev, "b", 1, 0)),
		"in a\nand b a a\n":       progOf(blockIn("a"), block(impl.BlockAnd, "b", 0, 0)),
		"in a\nor b a a\n":        progOf(blockIn("a"), block(impl.BlockOr, "b", 0, 0)),
		"in a\nlatch b a a\n":     progOf(blockIn("a"), block(impl.BlockLatch, "b", 0, 0)),
		"in a\ndelay b a 1\n":     progOf(blockIn("a"), block(impl.BlockDelay, "b", 0, 1)),
		"in a\ndelay b a 100\n":   progOf(blockIn("a"), block(impl.BlockDelay, "b", 0, 100)),
		"in z\nin a\nand m a z\n": progOf(blockIn("z"), blockIn("a"), block(impl.BlockAnd, "m", 1, 0)),
		// Several ask for one, and one of them only by and by; what was asked for asks on.
		"prev a d\nprev b d\nprev c e\nprev d a\nin e\nprev f d\n": progOf(
			block(impl.BlockPrev, "a", 3, 0), block(impl.BlockPrev, "b", 3, 0), block(impl.BlockPrev, "c", 4, 0),
			block(impl.BlockPrev, "d", 0, 0), blockIn("e"), block(impl.BlockPrev, "f", 3, 0)),
		"prev a b\nnot b a\n":                                    progOf(block(impl.BlockPrev, "a", 1, 0), block(impl.BlockNot, "b", 0, 0)),
		"in a\nout a\n":                                          {Blocks: []impl.LogicBlock{blockIn("a")}, Outs: []int64{0}},
		"in b\nin a\nout b\nout a\nnever b a\n":                  {Blocks: []impl.LogicBlock{blockIn("b"), blockIn("a")}, Outs: []int64{0, 1}, Nevers: []impl.Pair{{A: 0, B: 1}}},
		"in out0\nprev never1 in2\nin in2\nout never1\n":         {Blocks: []impl.LogicBlock{blockIn("out0"), block(impl.BlockPrev, "never1", 2, 0), blockIn("in2")}, Outs: []int64{1}},
		sluiceText():                                             sluice(),
		"in a------------------0\nprev b a------------------0\n": progOf(blockIn("a------------------0"), block(impl.BlockPrev, "b", 0, 0)),
	} {
		sameProgRead(t, "by hand", text, impl.ProgOut{Prog: want})
	}
}

// TestProgReadLines: the line with which no text of a right one begins, or how many lines there are.
func TestProgReadLines(t *testing.T) {
	for text, line := range map[string]int64{
		"in a": 0, "in a\nin b": 1, "in a\n\n": 1, "\n": 0, "\n\n": 0, "in a\n\nin b\n": 1, " ": 0, "in a\n ": 1,
		"prev a b": 0, "prev a b\n": 1, "prev a b\nin b": 1, "prev a b\nin c\n": 2, "prev a b\nprev b c\n": 2, "prev a b\nprev c b\n": 2,
		"prev a b\nprev b c\nin d\nin c": 3, "prev a b\nout a\n": 1, "prev a b\nout b\n": 1, "prev a b\nin c\nout c\n": 2,
		"prev a b\nnever a b\n": 1, "prev a b\nnot c b\n": 1, "prev a b\nin a\n": 1, "prev a b\nin b\nin b\n": 2,
		"prev a in\n": 0, "prev a never\n": 0, "prev a A\n": 0, "prev a \n": 0, "prev a\n": 0, "prev a b 1\n": 0, "prev a b b\n": 0, "prev a 1\n": 0,
		"prev a b-\n": 1, "prev a aaaaaaaaaaaaaaaaaaaa\n": 1, "prev a aaaaaaaaaaaaaaaaaaaaa\n": 0, "prev in a\n": 0, "prev a é\n": 0, "prev a \xff\n": 0,
		"in\n": 0, "in \n": 0, "in  a\n": 0, " in a\n": 0, "in a \n": 0, "in a b\n": 0, "in a\r\n": 0, "in\ta\n": 0, "IN a\n": 0, "in in\n": 0,
		"in a\nin a\n": 1, "in a\nin b\nin a\n": 2, "a\n": 0, "in a\na\n": 1, "inn a\n": 0, "0\n": 0,
		"not a a\n": 0, "and a a a\n": 0, "or a a a\n": 0, "latch a a a\n": 0, "delay a a 1\n": 0, "in a\nnot b b\n": 1, "in a\nnot b\n": 1, "in a\nnot b a a\n": 1,
		"in a\nand b a\n": 1, "in a\nand b a b\n": 1, "in a\nand b b a\n": 1, "in a\nand b a a a\n": 1, "in a\nand b a c\nin c\n": 1, "in a\nand b c a\nin c\n": 1,
		"in a\nor b a\n": 1, "in a\nor b a b\n": 1, "in a\nor b b a\n": 1, "in a\nlatch b a\n": 1, "in a\nlatch b a b\n": 1, "in a\nlatch b b a\n": 1,
		"in a\nlatch b a 1\n": 1, "in a\nand b a in\n": 1, "in a\nand and a a\n": 1, "in a\nnot a a\n": 1,
		"in a\ndelay b a\n": 1, "in a\ndelay b a 0\n": 1, "in a\ndelay b a 101\n": 1, "in a\ndelay b a -1\n": 1, "in a\ndelay b a +1\n": 1, "in a\ndelay b a 01\n": 1,
		"in a\ndelay b a 1 \n": 1, "in a\ndelay b a  1\n": 1, "in a\ndelay b a a\n": 1, "in a\ndelay b 1 a\n": 1, "in a\ndelay b b 1\n": 1, "in a\ndelay b c 1\nin c\n": 1,
		"in a\ndelay b a 1.0\n": 1, "in a\ndelay b a 1e1\n": 1, "in a\ndelay b a 0x1\n": 1, "in a\ndelay b a 1_0\n": 1, "in a\ndelay b a ١\n": 1, "in a\ndelay b a 000\n": 1,
		"in a\ndelay b a 18446744073709551617\n": 1, "in a\ndelay b a 1000\n": 1, "in a\ndelay b a -0\n": 1, "in a\ndelay b a 1 1\n": 1,
		"out a\n": 0, "out\n": 0, "in a\nout\n": 1, "in a\nout b\n": 1, "in a\nout a a\n": 1, "in a\nout a\nout a\n": 2, "in a\nin b\nout b\nout a\n": 3, "in a\nout out\n": 1,
		"in a\nout a\nin b\n": 2, "in a\nout a\nprev b a\n": 2, "in a\nout a\nout b\nin b\n": 2, "in a\nout a \n": 1, "in a\nout a": 1,
		"never a b\n": 0, "in a\nin b\nnever a b\n": 2, "in a\nin b\nout a\nnever a b\n": 3, "in a\nin b\nout b\nnever a b\n": 3, "in a\nin b\nout a\nnever a b\nout b\n": 3,
		"in a\nin b\nout a\nout b\nnever a\n": 4, "in a\nin b\nout a\nout b\nnever a b b\n": 4, "in a\nin b\nout a\nout b\nnever b a\n": 4, "in a\nin b\nout a\nout b\nnever a a\n": 4,
		"in a\nin b\nout a\nout b\nnever a b\nnever a b\n": 5, "in a\nin b\nout a\nout b\nnever a c\n": 4, "in a\nin b\nout a\nout b\nnever c a\n": 4, "in a\nin b\nout a\nout b\nnever  b\n": 4,
		"in a\nin b\nin c\nout a\nout b\nnever a b\nout c\n": 6, "in a\nin b\nout a\nout b\nnever a b\nin c\n": 5, "in a\nin b\nout a\nout b\nnever a b": 4,
		"in a\nin b\nin c\nout a\nout b\nout c\nnever a c\nnever a b\n": 7, "in a\nin b\nin c\nout a\nout b\nout c\nnever b c\nnever a b\n": 7,
		"in a\x00\n": 0, "\x00in a\n": 0, "in a\n\x00": 1, "in a\v": 0, "in a\nin b\rin c\n": 1, "\ufeffin a\n": 0,
	} {
		sameProgRead(t, "a text of none", text, progFault(line))
	}
}

func TestProgReadNames(t *testing.T) {
	for what, name := range wrongNames() {
		// What ends a line, or the text, is told of elsewhere.
		if strings.Contains(name, "\n") || len(name) > 1000 {
			continue
		}
		sameProgRead(t, "in, "+what, "in "+name+"\n", progFault(0))
		sameProgRead(t, "prev, "+what, "in x\nprev "+name+" x\n", progFault(1))
		sameProgRead(t, "prev of, "+what, "in x\nprev y "+name+"\n", progFault(1))
		sameProgRead(t, "and of, "+what, "in x\nand y x "+name+"\n", progFault(1))
		sameProgRead(t, "out, "+what, "in x\nout "+name+"\n", progFault(1))
		sameProgRead(t, "never, "+what, "in x\nout x\nnever x "+name+"\n", progFault(2))
	}
	for _, name := range rightNames() {
		text := "prev x " + name + "\nin " + name + "\nout x\nout " + name + "\nnever x " + name + "\n"
		sameProgRead(t, name, text, impl.ProgOut{Prog: impl.Prog{
			Blocks: []impl.LogicBlock{block(impl.BlockPrev, "x", 1, 0), blockIn(name)},
			Outs:   []int64{0, 1}, Nevers: []impl.Pair{{A: 0, B: 1}},
		}})
	}
}

// someLines are so many of one kind, with the place in each where an X stands.
func someLines(each string, count int) string {
	text := ""
	for i := range count {
		text += strings.ReplaceAll(each, "X", decimal(int64(i))) + "\n"
	}
	return text
}

// TestProgReadRoom: blocks that were asked for need room as those that are there.
func TestProgReadRoom(t *testing.T) {
	ins := func(count int) string { return someLines("in iX", count) }
	sameProgRead(t, "MaxDiagram", ins(100), impl.ProgOut{Prog: manyIns(100)})
	sameProgRead(t, "one above MaxDiagram", ins(101), progFault(100))
	sameProgRead(t, "far above MaxDiagram", ins(1000), progFault(100))
	sameProgRead(t, "no line feed at the last of MaxDiagram", strings.TrimSuffix(ins(100), "\n"), progFault(99))
	asked := func(ahead string, prev impl.LogicBlock) impl.ProgOut {
		return impl.ProgOut{Prog: impl.Prog{Blocks: append(impl.ProgRead(ahead).Prog.Blocks, prev, blockIn("y"))}}
	}
	sameProgRead(t, "room for what is asked for", ins(98)+"prev x y\nin y\n", asked(ins(98), block(impl.BlockPrev, "x", 99, 0)))
	sameProgRead(t, "room for what is asked for, which does not come", ins(98)+"prev x y\n", progFault(99))
	sameProgRead(t, "another one in its room", ins(98)+"prev x y\nin z\nin y\n", progFault(99))
	sameProgRead(t, "another prev in its room", ins(98)+"prev x y\nprev z y\nin y\n", progFault(99))
	sameProgRead(t, "no room for what is asked for", ins(99)+"prev x y\nin y\n", progFault(99))
	sameProgRead(t, "no room for two that are asked for", ins(97)+"prev x y\nprev z w\n", progFault(98))
	sameProgRead(t, "the last one asks for itself", ins(99)+"prev x x\n", impl.ProgOut{Prog: impl.Prog{Blocks: append(manyIns(99).Blocks, block(impl.BlockPrev, "x", 99, 0))}})
	sameProgRead(t, "all ask for others", someLines("prev pX qX", 50), progFault(50))
	sameProgRead(t, "one too many asks for another", someLines("prev pX qX", 51), progFault(50))
	sameProgRead(t, "one too many is another", someLines("prev pX qX", 50)+"in x\n", progFault(50))
	sameProgRead(t, "all ask for one", someLines("prev pX q", 99), progFault(99))
	sameProgRead(t, "too many ask for one", someLines("prev pX q", 100), progFault(99))
	var all impl.Prog
	for i := range int64(50) {
		all.Blocks = append(all.Blocks, block(impl.BlockPrev, "p"+decimal(i), 50+i, 0))
	}
	for i := range int64(50) {
		all.Blocks = append(all.Blocks, blockIn("q"+decimal(i)))
	}
	sameProgRead(t, "all that were asked for come", someLines("prev pX qX", 50)+someLines("in qX", 50), impl.ProgOut{Prog: all})
	sameProgRead(t, "all but one come", someLines("prev pX qX", 50)+someLines("in qX", 49), progFault(99))
}

func TestProgReadNevers(t *testing.T) {
	text := func(nevers int) string { return plainProgText(manyOuts(20, nevers)) }
	sameProgRead(t, "MaxDiagram nevers", text(100), impl.ProgOut{Prog: manyOuts(20, 100)})
	sameProgRead(t, "one never above MaxDiagram", text(101), progFault(140))
	sameProgRead(t, "more nevers", text(190), progFault(140))
	sameProgRead(t, "MaxDiagram nevers and one that falls", text(100)+"never i0 i1\n", progFault(140))
	sameProgRead(t, "MaxDiagram outs", plainProgText(manyOuts(100, 0)), impl.ProgOut{Prog: manyOuts(100, 0)})
	sameProgRead(t, "MaxDiagram outs and one more", plainProgText(manyOuts(100, 0))+"out i99\n", progFault(200))
}

func TestProgReadSize(t *testing.T) {
	size := impl.ProgOut{Code: impl.ErrSize}
	for what, first := range map[string]string{"nothing": "", "a line": "in a\n", "a sluice": sluiceText(), "a wrong line": "in in\n"} {
		lines := int64(strings.Count(first, "\n"))
		if what == "a wrong line" {
			lines = 0
		}
		for _, fill := range []string{"\n", " ", "a", "\xff"} {
			rest := strings.Repeat(fill, impl.MaxBytes-len(first))
			sameProgRead(t, what+" up to MaxBytes", first+rest, progFault(lines))
			sameProgRead(t, what+" beyond MaxBytes", first+rest+fill, size)
			sameProgRead(t, what+" far beyond MaxBytes", first+strings.Repeat(rest, 5), size)
		}
	}
	blanks := "in a\nnot b" + strings.Repeat(" ", impl.MaxBytes-11) + "\n"
	sameProgRead(t, "all blanks", blanks, progFault(1))
	sameProgRead(t, "one blank more", " "+blanks, size)
}

// plainParse turns whatever is like a line into a part of a Prog: if its text is another one, it was none's.
func plainParse(text string) (impl.Prog, bool) {
	var p impl.Prog
	places := map[string]int64{}
	var rows [][]string
	for _, line := range strings.SplitAfter(text, "\n") {
		words := append(strings.Fields(line), "", "", "", "")
		kind := int64(slices.Index(progWords(), words[0]) + 1)
		if kind >= impl.BlockIn && kind <= impl.BlockDelay {
			places[words[1]] = int64(len(p.Blocks))
			p.Blocks = append(p.Blocks, block(kind, words[1], 0, 0))
		}
		rows = append(rows, words)
	}
	at := 0
	for _, words := range rows {
		switch words[0] {
		case "":
		case "out":
			p.Outs = append(p.Outs, places[words[1]])
		case "never":
			p.Nevers = append(p.Nevers, impl.Pair{A: places[words[1]], B: places[words[2]]})
		default:
			if slices.Contains(progWords(), words[0]) {
				p.Blocks[at].A, p.Blocks[at].B = places[words[2]], places[words[3]]
				if n, err := strconv.Atoi(words[3]); err == nil && words[0] == "delay" {
					p.Blocks[at].B = int64(n)
				}
				at++
			}
		}
	}
	return p, plainProgRight(p) && plainProgText(p) == text
}

// plainBegins: is there a text that begins with these lines? If so, one that goes on with what its prevs still ask for.
func plainBegins(lines []string) bool {
	rest, named := "", map[string]bool{}
	for _, line := range lines {
		if words := strings.Fields(line); len(words) > 1 {
			named[words[1]] = true
		}
	}
	for _, line := range lines {
		if words := strings.Fields(line); len(words) == 3 && words[0] == "prev" && !named[words[2]] {
			named[words[2]] = true
			rest += "in " + words[2] + "\n"
		}
	}
	_, right := plainParse(strings.Join(lines, "") + rest)
	return right
}

func plainProgRead(text string) impl.ProgOut {
	if p, right := plainParse(text); right {
		return impl.ProgOut{Prog: p}
	}
	lines := strings.SplitAfter(text, "\n")
	count := 0
	for count < len(lines)-1 && plainBegins(lines[:count+1]) {
		count++
	}
	return progFault(int64(count))
}

// TestProgReadBytes: each byte of a text left out, doubled, or turned into another one.
func TestProgReadBytes(t *testing.T) {
	text := "in a\nprev c b\ndelay b a 10\nout c\nout b\nnever c b\n"
	if out := impl.ProgRead(text); out.Code != impl.OK {
		t.Fatalf("got %+v", out)
	}
	for at := range len(text) {
		sameProgRead(t, "cut off", text[:at], plainProgRead(text[:at]))
		sameProgRead(t, "begun later", text[at:], plainProgRead(text[at:]))
		less := text[:at] + text[at+1:]
		sameProgRead(t, "a byte less", less, plainProgRead(less))
		for b := range 256 {
			turned := text[:at] + string([]byte{byte(b)}) + text[at+1:]
			sameProgRead(t, "a byte turned", turned, plainProgRead(turned))
			more := text[:at] + string([]byte{byte(b)}) + text[at:]
			sameProgRead(t, "a byte more", more, plainProgRead(more))
		}
	}
}

// turnText moves, drops, doubles or changes lines or words of a text.
func turnText(random *rand.Rand, text string) string {
	lines := strings.SplitAfter(text, "\n")
	at, other := random.Intn(len(lines)), random.Intn(len(lines))
	switch random.Intn(6) {
	case 0:
		lines[at], lines[other] = lines[other], lines[at]
	case 1:
		lines = slices.Delete(lines, at, at+1)
	case 2:
		lines = slices.Insert(lines, at, lines[other])
	case 3:
		line := lines[at]
		lines = slices.Insert(slices.Delete(lines, at, at+1), random.Intn(len(lines)), line)
	default:
		words := strings.Split(strings.TrimSuffix(lines[at], "\n"), " ")
		others := strings.Split(strings.TrimSuffix(lines[other], "\n"), " ")
		words[random.Intn(len(words))] = others[random.Intn(len(others))]
		lines[at] = strings.Join(words, " ") + "\n"
	}
	return strings.Join(lines, "")
}

func TestProgReadOfAny(t *testing.T) {
	random := rand.New(rand.NewSource(203))
	seen := map[bool]int{}
	for range 6000 {
		text := plainProgText(anyProg(random, []int{4, 10, 30}[random.Intn(3)]))
		for range 1 + random.Intn(2) {
			text = turnText(random, text)
		}
		want := plainProgRead(text)
		seen[want.Code == impl.OK]++
		sameProgRead(t, "any, turned", text, want)
		if t.Failed() {
			t.FailNow()
		}
	}
	if seen[true] < 300 || seen[false] < 3000 {
		t.Errorf("%v: too few to tell", seen)
	}
}
