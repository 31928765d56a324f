package tests

import (
	"fmt"
	"math/rand"
	"strings"
	"testing"

	"loop.example/g00068/impl"
)

func sameProgText(t *testing.T, what string, p impl.Prog, want string) {
	t.Helper()
	watchedProg(t, "ProgText, "+what, p, func(p impl.Prog) {
		t.Helper()
		if got := impl.ProgText(p); got != want {
			t.Errorf("ProgText, %s: got %q, want %q", what, got, want)
		}
	})
}

func TestProgTextByHand(t *testing.T) {
	sameProgText(t, "none", impl.Prog{}, "")
	sameProgText(t, "a sluice", sluice(), sluiceText())
	sameProgText(t, "one in", progOf(blockIn("a")), "in a\n")
	sameProgText(t, "a prev of itself", progOf(block(impl.BlockPrev, "a", 0, 0)), "prev a a\n")
	sameProgText(t, "prevs of each other", progOf(block(impl.BlockPrev, "b", 1, 0), block(impl.BlockPrev, "a", 0, 0)), "prev b a\nprev a b\n")
	sameProgText(t, "and", progOf(blockIn("a"), blockIn("b"), block(impl.BlockAnd, "c", 1, 0)), "in a\nin b\nand c b a\n")
	sameProgText(t, "or", progOf(blockIn("a"), blockIn("b"), block(impl.BlockOr, "c", 1, 1)), "in a\nin b\nor c b b\n")
	sameProgText(t, "not", progOf(blockIn("a"), blockIn("b"), block(impl.BlockNot, "c", 1, 0)), "in a\nin b\nnot c b\n")
	sameProgText(t, "latch", progOf(blockIn("a"), blockIn("b"), block(impl.BlockLatch, "c", 0, 1)), "in a\nin b\nlatch c a b\n")
	for _, b := range []int64{1, 9, 10, 99, 100} {
		sameProgText(t, "delay", progOf(blockIn("a"), block(impl.BlockDelay, "b", 0, b)), "in a\ndelay b a "+decimal(b)+"\n")
	}
	sameProgText(t, "outs and nevers", manyOuts(3, 9), "in i0\nin i1\nin i2\nout i0\nout i1\nout i2\nnever i0 i1\nnever i0 i2\nnever i1 i2\n")
}

// TestProgTextLongest: no text of a right one is too long to be read.
func TestProgTextLongest(t *testing.T) {
	first := "n----------------"
	var want strings.Builder
	want.WriteString("in " + first + "100\n")
	for i := range 99 {
		fmt.Fprintf(&want, "latch %s%d %s%d %s100\n", first, i+101, first, i+100, first)
	}
	for i := range 100 {
		fmt.Fprintf(&want, "out %s%d\n", first, i+100)
	}
	for i := range 99 {
		fmt.Fprintf(&want, "never %s100 %s%d\n", first, first, i+101)
	}
	fmt.Fprintf(&want, "never %s101 %s102\n", first, first)
	sameProgText(t, "longest", longest(), want.String())
	if size := want.Len(); size != 24+99*69+100*25+100*48 || size > impl.MaxBytes {
		t.Errorf("the longest text has %d bytes", size)
	}
	sameProgRead(t, "longest", want.String(), impl.ProgOut{Prog: longest()})
}

func TestProgTextWrong(t *testing.T) {
	for what, p := range wrongProgs() {
		sameProgText(t, what, p, "")
	}
}

// plainProgText fills the words of a row's names in.
func plainProgText(p impl.Prog) string {
	name := func(place int64) string { return p.Blocks[place].Name }
	text := ""
	for _, b := range p.Blocks {
		switch b.Kind {
		case impl.BlockIn:
			text += fmt.Sprintf("in %s\n", b.Name)
		case impl.BlockNot:
			text += fmt.Sprintf("not %s %s\n", b.Name, name(b.A))
		case impl.BlockPrev:
			text += fmt.Sprintf("prev %s %s\n", b.Name, name(b.A))
		case impl.BlockDelay:
			text += fmt.Sprintf("delay %s %s %d\n", b.Name, name(b.A), b.B)
		default:
			word := map[int64]string{impl.BlockAnd: "and", impl.BlockOr: "or", impl.BlockLatch: "latch"}[b.Kind]
			text += fmt.Sprintf("%s %s %s %s\n", word, b.Name, name(b.A), name(b.B))
		}
	}
	for _, place := range p.Outs {
		text += fmt.Sprintf("out %s\n", name(place))
	}
	for _, n := range p.Nevers {
		text += fmt.Sprintf("never %s %s\n", name(n.A), name(n.B))
	}
	return text
}

func TestProgTextOfAny(t *testing.T) {
	for what, p := range rightProgs() {
		sameProgText(t, what, p, plainProgText(p))
	}
	random := rand.New(rand.NewSource(201))
	for range 3000 {
		p := anyProg(random, impl.MaxDiagram)
		sameProgText(t, "any", p, plainProgText(p))
	}
}
