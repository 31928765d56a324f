package tests

import (
	"math/rand"
	"slices"
	"strings"
	"sync"
	"testing"

	"loop.example/g00068/impl"
)

// comesBack: is the text of the Prog read as the Prog, and written again as it was?
func comesBack(t *testing.T, what string, p impl.Prog) {
	t.Helper()
	text := impl.ProgText(p)
	out := impl.ProgRead(text)
	if out.Code != impl.OK || out.Line != 0 || !isProg(out.Prog, p) {
		t.Fatalf("%s: got %+v, want %+v, by %q", what, out, p, text)
	}
	if again := impl.ProgText(out.Prog); again != text || !impl.ProgRight(out.Prog) {
		t.Fatalf("%s: got %q, want %q", what, again, text)
	}
}

func TestPromise34Any(t *testing.T) {
	for what, p := range rightProgs() {
		comesBack(t, what, p)
	}
	random := rand.New(rand.NewSource(204))
	for range 5000 {
		comesBack(t, "any", anyProg(random, []int{3, 12, impl.MaxDiagram}[random.Intn(3)]))
	}
}

// littleBlocks are all that can stand at a place of so many.
func littleBlocks(name string, place int64, count int64) []impl.LogicBlock {
	list := []impl.LogicBlock{blockIn(name)}
	for a := range count {
		list = append(list, block(impl.BlockPrev, name, a, 0))
	}
	for a := range place {
		list = append(list, block(impl.BlockNot, name, a, 0), block(impl.BlockDelay, name, a, 1))
		for b := range place {
			list = append(list, block(impl.BlockAnd, name, a, b), block(impl.BlockOr, name, a, b), block(impl.BlockLatch, name, a, b))
		}
	}
	return list
}

// subsets are all of a list, each in its order.
func subsets[T any](list []T) [][]T {
	all := [][]T{nil}
	for _, item := range list {
		for _, set := range all[:len(all):len(all)] {
			all = append(all, append(slices.Clone(set), item))
		}
	}
	return all
}

// littleLists are all Outs and Nevers that blocks can have.
func littleLists(blocks []impl.LogicBlock, tell func(p impl.Prog)) {
	var places []int64
	for place := range blocks {
		places = append(places, int64(place))
	}
	for _, outs := range subsets(places) {
		var pairs []impl.Pair
		for i, a := range outs {
			for _, b := range outs[i+1:] {
				pairs = append(pairs, impl.Pair{A: a, B: b})
			}
		}
		for _, nevers := range subsets(pairs) {
			tell(impl.Prog{Blocks: blocks, Outs: outs, Nevers: nevers})
		}
	}
}

// littleProgs tells all Progs of so many blocks, named a, b and c in any order, whose delays are of 1.
func littleProgs(count int, blocks []impl.LogicBlock, tell func(p impl.Prog)) {
	if len(blocks) == count {
		littleLists(blocks, tell)
		return
	}
	for _, name := range []string{"a", "b", "c"} {
		if slices.ContainsFunc(blocks, func(b impl.LogicBlock) bool { return b.Name == name }) {
			continue
		}
		for _, b := range littleBlocks(name, int64(len(blocks)), int64(count)) {
			littleProgs(count, append(slices.Clone(blocks), b), tell)
		}
	}
}

// littleLines are all that can stand in texts of little Progs, and many that can't.
func littleLines() []string {
	names := []string{"a", "b", "c"}
	var lines []string
	for _, x := range names {
		lines = append(lines, "in "+x+"\n", "out "+x+"\n")
		for _, y := range names {
			lines = append(lines, "not "+x+" "+y+"\n", "prev "+x+" "+y+"\n", "delay "+x+" "+y+" 1\n", "never "+x+" "+y+"\n")
			for _, z := range names {
				for _, word := range []string{"and", "or", "latch"} {
					lines = append(lines, word+" "+x+" "+y+" "+z+"\n")
				}
			}
		}
	}
	return lines
}

// littleWorld has all texts of little Progs, and all lines with which one of them begins.
type littleWorld struct {
	progs  map[string]impl.Prog
	begins map[string]bool
}

func (w *littleWorld) enter(p impl.Prog) {
	text := plainProgText(p)
	w.progs[text] = p
	for end := strings.LastIndex(text, "\n"); end >= 0; end = strings.LastIndex(text[:end], "\n") {
		w.begins[text[:end+1]] = true
	}
}

// read counts lines by what all the texts begin with: names beyond these three would not help.
func (w *littleWorld) read(text string) impl.ProgOut {
	if p, is := w.progs[text]; is {
		return impl.ProgOut{Prog: p}
	}
	count, ahead := int64(0), ""
	for _, line := range strings.SplitAfter(text, "\n") {
		ahead += line
		if line == "" || !w.begins[ahead] {
			break
		}
		count++
	}
	return progFault(count)
}

// TestPromise34All: all little Progs come back from their texts, and no other text brings one; where it goes
// wrong is told by all texts that there are.
func TestPromise34All(t *testing.T) {
	w := &littleWorld{progs: map[string]impl.Prog{}, begins: map[string]bool{}}
	total := 0
	for count := range 4 {
		littleProgs(count, nil, func(p impl.Prog) {
			total++
			w.enter(p)
			comesBack(t, "a little one", p)
		})
	}
	if len(w.progs) != total || total < 70000 {
		t.Fatalf("%d texts of %d Progs", len(w.progs), total)
	}
	lines, texts := littleLines(), []string{""}
	for range 3 {
		var longer []string
		for _, text := range texts {
			for _, line := range lines {
				sameProgRead(t, "little lines", text+line, w.read(text+line))
				if w.begins[text+line] {
					longer = append(longer, text+line)
				}
			}
		}
		texts = longer
	}
	random := rand.New(rand.NewSource(205))
	for range 50000 {
		text := texts[random.Intn(len(texts))]
		for range 1 + random.Intn(5) {
			text += lines[random.Intn(len(lines))]
		}
		sameProgRead(t, "little lines, longer", text, w.read(text))
		turned := turnText(random, text)
		if strings.Contains(turned, "1") == strings.Contains(text, "1") {
			sameProgRead(t, "little lines, turned", turned, w.read(turned))
		}
	}
}

// TestProgReadIsNew: what was read once is not minded by another read, nor by what becomes of it.
func TestProgReadIsNew(t *testing.T) {
	for range 3 {
		out := impl.ProgRead(sluiceText())
		other := impl.ProgRead(sluiceText())
		for i := range out.Prog.Blocks {
			out.Prog.Blocks[i] = block(-9, "-9", -9, -9)
		}
		for i := range out.Prog.Outs {
			out.Prog.Outs[i] = -9
		}
		for i := range out.Prog.Nevers {
			out.Prog.Nevers[i] = impl.Pair{A: -9, B: -9}
		}
		_ = append(out.Prog.Outs, -9)
		if !isProg(other.Prog, sluice()) {
			t.Fatalf("behind a spoilt answer: got %+v", other)
		}
	}
}

// TestProgReadKeepsNothing: reads beside one another tell the same, be there names that were asked for in vain or not.
func TestProgReadKeepsNothing(t *testing.T) {
	texts := []string{sluiceText(), "prev a b\n", "in b\nin a\n", "prev a b\nin b\nin b\n"}
	wants := []impl.ProgOut{{Prog: sluice()}, progFault(1), {Prog: progOf(blockIn("b"), blockIn("a"))}, progFault(2)}
	var all sync.WaitGroup
	for i := range 40 {
		all.Go(func() { sameProgRead(t, "beside others", texts[i%4], wants[i%4]) })
	}
	all.Wait()
}
