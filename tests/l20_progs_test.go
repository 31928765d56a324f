package tests

import (
	"math/rand"
	"regexp"
	"slices"
	"strings"
	"testing"

	"loop.example/g00068/impl"
)

func block(kind int64, name string, a int64, b int64) impl.LogicBlock {
	return impl.LogicBlock{Kind: kind, Name: name, A: a, B: b}
}

func blockIn(name string) impl.LogicBlock {
	return block(impl.BlockIn, name, 0, 0)
}

func progOf(blocks ...impl.LogicBlock) impl.Prog {
	return impl.Prog{Blocks: blocks}
}

// sluice has blocks of all kinds; of its prevs one looks at a later block, one at itself, and one back.
func sluice() impl.Prog {
	return impl.Prog{
		Blocks: []impl.LogicBlock{
			blockIn("open"),
			blockIn("flood"),
			block(impl.BlockPrev, "was", 7, 0),
			block(impl.BlockAnd, "both", 0, 1),
			block(impl.BlockOr, "one", 1, 0),
			block(impl.BlockNot, "dry", 1, 0),
			block(impl.BlockPrev, "self", 6, 0),
			block(impl.BlockLatch, "stays", 3, 5),
			block(impl.BlockDelay, "late", 4, 30),
			block(impl.BlockPrev, "back", 0, 0),
		},
		Outs:   []int64{3, 5, 7, 9},
		Nevers: []impl.Pair{{A: 3, B: 5}, {A: 3, B: 9}, {A: 5, B: 7}},
	}
}

func sluiceText() string {
	return "in open\nin flood\nprev was stays\nand both open flood\nor one flood open\nnot dry flood\nprev self self\n" +
		"latch stays both dry\ndelay late one 30\nprev back open\n" +
		"out both\nout dry\nout stays\nout back\n" +
		"never both dry\nnever both back\nnever dry stays\n"
}

func copiedProg(p impl.Prog) impl.Prog {
	return impl.Prog{Blocks: slices.Clone(p.Blocks), Outs: slices.Clone(p.Outs), Nevers: slices.Clone(p.Nevers)}
}

func changedProg(p impl.Prog, change func(p *impl.Prog)) impl.Prog {
	p = copiedProg(p)
	change(&p)
	return p
}

func isProg(a impl.Prog, b impl.Prog) bool {
	return slices.Equal(a.Blocks, b.Blocks) && slices.Equal(a.Outs, b.Outs) && slices.Equal(a.Nevers, b.Nevers)
}

// roomyOf has a mark behind its end, so that what is put there is seen; a nil list has none.
func roomyOf[T any](list []T, mark T) []T {
	if list == nil {
		return nil
	}
	return append(slices.Clone(list), mark)[:len(list)]
}

func keptOf[T comparable](own []T, list []T, mark T) bool {
	if own == nil {
		return list == nil
	}
	return slices.Equal(own, list) && own[:len(own)+1][len(own)] == mark
}

// watchedProg calls with a Prog of its own, and tells if it was changed.
func watchedProg(t *testing.T, what string, p impl.Prog, call func(p impl.Prog)) {
	t.Helper()
	block, place, pair := block(-7, "-7", -7, -7), int64(-7), impl.Pair{A: -7, B: -7}
	own := impl.Prog{Blocks: roomyOf(p.Blocks, block), Outs: roomyOf(p.Outs, place), Nevers: roomyOf(p.Nevers, pair)}
	call(own)
	if !keptOf(own.Blocks, p.Blocks, block) || !keptOf(own.Outs, p.Outs, place) || !keptOf(own.Nevers, p.Nevers, pair) {
		t.Errorf("%s: the Prog was changed", what)
	}
}

func sameProgRight(t *testing.T, what string, p impl.Prog, want bool) {
	t.Helper()
	watchedProg(t, "ProgRight, "+what, p, func(p impl.Prog) {
		t.Helper()
		if got := impl.ProgRight(p); got != want {
			t.Errorf("ProgRight, %s: got %v of %+v", what, got, p)
		}
	})
}

// progWords are those that no block may be named by.
func progWords() []string {
	return []string{"in", "and", "or", "not", "prev", "latch", "delay", "out", "never"}
}

func wrongNames() map[string]string {
	wrong := map[string]string{
		"none": "", "a blank": " ", "a line feed": "\n", "a byte 0": "\x00", "no rune": "\xff", "half a rune": "\xc3",
		"a great letter": "A", "a digit ahead": "0a", "a minus ahead": "-a", "a minus": "-", "a digit": "7",
		"21 letters": strings.Repeat("a", 21), "21 bytes": "a" + strings.Repeat("-", 20), "very long": strings.Repeat("a", 30000),
		"a great letter behind": "aZ", "a blank behind": "a ", "a blank ahead": " a", "a blank within": "a b", "a line feed behind": "a\n",
		"a return behind": "a\r", "a low line": "a_b", "a dot": "a.b", "no rune behind": "a\xff", "a rune of two bytes": "é",
		"a rune of two bytes behind": "aé", "half a rune behind": "a\xc3", "the rune of what is none": "a\uFFFD",
		"a letter of another script": "aа", "a wide letter": "ａ", "a digit of another script": "a٣", "a long minus": "a–b",
		"the byte ahead of a": "`", "the byte behind z": "{", "the byte ahead of 0": "a/", "the byte behind 9": "a:", "a comma": "a,", "20 and a line feed": strings.Repeat("a", 20) + "\n",
	}
	for _, word := range progWords() {
		wrong["the word "+word] = word
	}
	return wrong
}

func rightNames() []string {
	right := []string{"a", "z", "a0", "a9", "a-", "z-z", "a--", "q-7", "inn", "i", "in-", "in0", "ands", "nots", "outs", "nevers", "prev1", "latches", "del"}
	return append(right, strings.Repeat("a", 20), "z"+strings.Repeat("-", 19), "b"+strings.Repeat("0", 19), "c"+strings.Repeat("9", 18)+"z", "abcdefghijklmnopqrst", "uvwxyz-0123456789")
}

// manyIns are so many, named by their places.
func manyIns(count int) impl.Prog {
	var p impl.Prog
	for i := range count {
		p.Blocks = append(p.Blocks, blockIn("i"+decimal(int64(i))))
	}
	return p
}

// manyOuts has all of its blocks as Outs, and as many Nevers as are asked for.
func manyOuts(count int, nevers int) impl.Prog {
	p := manyIns(count)
	for a := range int64(count) {
		p.Outs = append(p.Outs, a)
		for b := a + 1; b < int64(count) && len(p.Nevers) < nevers; b++ {
			p.Nevers = append(p.Nevers, impl.Pair{A: a, B: b})
		}
	}
	return p
}

// longest has the longest text of all right Progs, and of each list as many as may be.
func longest() impl.Prog {
	p := manyOuts(impl.MaxDiagram, impl.MaxDiagram)
	for i := range p.Blocks {
		p.Blocks[i].Name = "n" + strings.Repeat("-", 16) + decimal(int64(i+100))
		if i > 0 {
			p.Blocks[i].Kind, p.Blocks[i].A, p.Blocks[i].B = impl.BlockLatch, int64(i-1), 0
		}
	}
	return p
}

// addWrongBlocks: whatever A and B of each kind may not be.
func addWrongBlocks(add func(what string, change func(p *impl.Prog))) {
	for place, b := range sluice().Blocks {
		at := " of " + b.Name
		for what, kind := range beside(impl.BlockIn, impl.BlockDelay) {
			add("the Kind"+at+" is "+what, func(p *impl.Prog) { p.Blocks[place].Kind = kind })
			add("the Kind"+at+" is "+what+", and no more", func(p *impl.Prog) { p.Blocks[place] = block(kind, "x", 0, 0) })
		}
		for what, value := range beside(0, 9) {
			add("A"+at+" is "+what, func(p *impl.Prog) { p.Blocks[place].A = value })
		}
		for what, value := range beside(0, impl.MaxDelay) {
			add("B"+at+" is "+what, func(p *impl.Prog) { p.Blocks[place].B = value })
		}
		switch b.Kind {
		case impl.BlockAnd, impl.BlockOr, impl.BlockLatch:
			for _, value := range []int64{int64(place), int64(place) + 1, 9} {
				add("A"+at+" is "+decimal(value), func(p *impl.Prog) { p.Blocks[place].A = value })
				add("B"+at+" is "+decimal(value), func(p *impl.Prog) { p.Blocks[place].B = value })
			}
		case impl.BlockNot:
			add("A"+at+" is itself", func(p *impl.Prog) { p.Blocks[place].A = int64(place) })
			add("B"+at+" is 1", func(p *impl.Prog) { p.Blocks[place].B = 1 })
		case impl.BlockDelay:
			add("A"+at+" is itself", func(p *impl.Prog) { p.Blocks[place].A = int64(place) })
			add("A"+at+" is the last one", func(p *impl.Prog) { p.Blocks[place].A = 9 })
			add("B"+at+" is 0", func(p *impl.Prog) { p.Blocks[place].B = 0 })
		case impl.BlockPrev:
			add("B"+at+" is 1", func(p *impl.Prog) { p.Blocks[place].B = 1 })
		case impl.BlockIn:
			add("A"+at+" is 1", func(p *impl.Prog) { p.Blocks[place].A = 1 })
			add("B"+at+" is 1", func(p *impl.Prog) { p.Blocks[place].B = 1 })
		}
	}
	for kind := int64(impl.BlockAnd); kind <= impl.BlockDelay; kind++ {
		if kind != impl.BlockPrev {
			add("the first one is of Kind "+decimal(kind), func(p *impl.Prog) { p.Blocks[0].Kind = kind })
			add("only one, of Kind "+decimal(kind), func(p *impl.Prog) { *p = progOf(block(kind, "a", 0, 0)) })
			add("only one, of Kind "+decimal(kind)+" and with a B", func(p *impl.Prog) { *p = progOf(block(kind, "a", 0, 1)) })
		}
	}
}

func addWrongLists(add func(what string, change func(p *impl.Prog))) {
	for what, place := range beside(0, 9) {
		add("the first out is "+what, func(p *impl.Prog) { p.Outs[0] = place })
		add("the last out is "+what, func(p *impl.Prog) { p.Outs[3] = place })
		add("an out more is "+what, func(p *impl.Prog) { p.Outs = append(p.Outs, place) })
		add("the only out is "+what, func(p *impl.Prog) { p.Outs, p.Nevers = []int64{place}, nil })
		add("A of a never is "+what, func(p *impl.Prog) { p.Nevers[0].A = place })
		add("B of a never is "+what, func(p *impl.Prog) { p.Nevers[2].B = place })
		add("both of a never are "+what, func(p *impl.Prog) { p.Nevers = []impl.Pair{{A: place, B: place}} })
	}
	add("outs falling", func(p *impl.Prog) { p.Outs = []int64{3, 7, 5, 9} })
	add("an out twice", func(p *impl.Prog) { p.Outs = []int64{3, 5, 7, 9, 9} })
	add("the first out twice", func(p *impl.Prog) { p.Outs = []int64{3, 3, 5, 7, 9} })
	add("an out again", func(p *impl.Prog) { p.Outs = []int64{3, 5, 7, 9, 3} })
	add("very many outs", func(p *impl.Prog) { p.Outs = numbers(3, 401) })
	add("an out of no blocks", func(p *impl.Prog) { *p = impl.Prog{Outs: []int64{0}} })
	add("a never of no blocks", func(p *impl.Prog) { *p = impl.Prog{Nevers: []impl.Pair{{A: 0, B: 1}}} })
	add("a never of no outs", func(p *impl.Prog) { p.Outs = nil })
	add("A of a never is no out", func(p *impl.Prog) { p.Nevers[0].A = 2 })
	add("B of a never is no out", func(p *impl.Prog) { p.Nevers[2].B = 8 })
	add("an out of a never is missing", func(p *impl.Prog) { p.Outs = []int64{3, 5, 7} })
	add("a never of one block", func(p *impl.Prog) { p.Nevers[0].B = 3 })
	add("the last never of one block", func(p *impl.Prog) { p.Nevers[2] = impl.Pair{A: 9, B: 9} })
	add("a never with the greater one ahead", func(p *impl.Prog) { p.Nevers[2] = impl.Pair{A: 7, B: 5} })
	add("only one never, the greater one ahead", func(p *impl.Prog) { p.Nevers = []impl.Pair{{A: 9, B: 3}} })
	add("a never twice", func(p *impl.Prog) { p.Nevers = append(p.Nevers, p.Nevers[2]) })
	add("the first never twice", func(p *impl.Prog) { p.Nevers[1] = p.Nevers[0] })
	add("nevers falling by A", func(p *impl.Prog) { p.Nevers[0], p.Nevers[2] = p.Nevers[2], p.Nevers[0] })
	add("nevers falling by B", func(p *impl.Prog) { p.Nevers[0], p.Nevers[1] = p.Nevers[1], p.Nevers[0] })
	add("nevers rising by B alone", func(p *impl.Prog) { p.Nevers = []impl.Pair{{A: 5, B: 7}, {A: 3, B: 9}} })
	add("one never above MaxDiagram", func(p *impl.Prog) { *p = manyOuts(20, impl.MaxDiagram+1) })
	add("very many nevers", func(p *impl.Prog) { *p = manyOuts(40, 500) })
	add("one block above MaxDiagram", func(p *impl.Prog) { *p = manyIns(impl.MaxDiagram + 1) })
	add("very many blocks", func(p *impl.Prog) { *p = manyIns(impl.MaxList + 1) })
	add("one block above MaxDiagram, of nothing", func(p *impl.Prog) { *p = impl.Prog{Blocks: make([]impl.LogicBlock, impl.MaxDiagram+1)} })
}

// wrongProgs are right but for what their names say.
func wrongProgs() map[string]impl.Prog {
	wrong := map[string]impl.Prog{"a block of nothing": {Blocks: make([]impl.LogicBlock, 1)}}
	add := func(what string, change func(p *impl.Prog)) {
		wrong[what] = changedProg(sluice(), change)
	}
	for what, name := range wrongNames() {
		add("the first name is "+what, func(p *impl.Prog) { p.Blocks[0].Name = name })
		add("the last name is "+what, func(p *impl.Prog) { p.Blocks[9].Name = name })
		add("the only name is "+what, func(p *impl.Prog) { *p = progOf(blockIn(name)) })
	}
	add("the first name twice", func(p *impl.Prog) { p.Blocks[9].Name = p.Blocks[0].Name })
	add("a name twice, one behind the other", func(p *impl.Prog) { p.Blocks[4].Name = p.Blocks[5].Name })
	add("two alike and no more", func(p *impl.Prog) { *p = progOf(blockIn("a"), blockIn("a")) })
	add("the last of MaxDiagram alike", func(p *impl.Prog) { *p = manyIns(impl.MaxDiagram); p.Blocks[99].Name = p.Blocks[0].Name })
	addWrongBlocks(add)
	addWrongLists(add)
	return wrong
}

// rightProgs are at the limits, or of little.
func rightProgs() map[string]impl.Prog {
	right := map[string]impl.Prog{
		"none":                {},
		"empty lists":         {Blocks: []impl.LogicBlock{}, Outs: []int64{}, Nevers: []impl.Pair{}},
		"a sluice":            sluice(),
		"one in":              progOf(blockIn("a")),
		"a prev of itself":    progOf(block(impl.BlockPrev, "a", 0, 0)),
		"prevs of each other": progOf(block(impl.BlockPrev, "b", 1, 0), block(impl.BlockPrev, "a", 0, 0)),
		"all lean on one":     progOf(blockIn("a"), block(impl.BlockAnd, "b", 0, 0), block(impl.BlockOr, "c", 0, 0), block(impl.BlockLatch, "d", 0, 0)),
		"MaxDiagram blocks":   manyIns(impl.MaxDiagram),
		"MaxDiagram outs":     manyOuts(impl.MaxDiagram, 0),
		"MaxDiagram nevers":   manyOuts(15, impl.MaxDiagram),
		"as much as may be":   longest(),
		"names in no order":   progOf(blockIn("z"), blockIn("a"), blockIn("m")),
	}
	for _, name := range rightNames() {
		right["the name "+name] = progOf(blockIn("x"), block(impl.BlockPrev, name, 1, 0), block(impl.BlockPrev, "y", 1, 0))
	}
	add := func(what string, change func(p *impl.Prog)) {
		right[what] = changedProg(sluice(), change)
	}
	add("no nevers", func(p *impl.Prog) { p.Nevers = nil })
	add("no outs", func(p *impl.Prog) { p.Outs, p.Nevers = nil, nil })
	add("all outs", func(p *impl.Prog) { p.Outs = []int64{0, 1, 2, 3, 4, 5, 6, 7, 8, 9} })
	add("the first and the last never together", func(p *impl.Prog) { p.Outs, p.Nevers = []int64{0, 9}, []impl.Pair{{A: 0, B: 9}} })
	add("a delay of 1", func(p *impl.Prog) { p.Blocks[8].B = 1 })
	add("a delay of MaxDelay", func(p *impl.Prog) { p.Blocks[8].B = impl.MaxDelay })
	for place := range int64(10) {
		add("prevs look at "+decimal(place), func(p *impl.Prog) { p.Blocks[2].A, p.Blocks[6].A, p.Blocks[9].A = place, place, place })
	}
	for place := range int64(7) {
		add("a latch looks at "+decimal(place), func(p *impl.Prog) { p.Blocks[7].A, p.Blocks[7].B = place, 6-place })
		add("a delay looks at "+decimal(place+1), func(p *impl.Prog) { p.Blocks[8].A = place + 1 })
	}
	return right
}

func TestProgRight(t *testing.T) {
	for what, p := range rightProgs() {
		sameProgRight(t, what, p, true)
	}
}

func TestProgWrong(t *testing.T) {
	for what, p := range wrongProgs() {
		sameProgRight(t, what, p, false)
	}
}

var plainName = regexp.MustCompile(`\A[a-z][a-z0-9-]{0,19}\z`)

// plainBlock: A and B as the table has them.
func plainBlock(b impl.LogicBlock, place int64, count int64) bool {
	ahead := func(n int64) bool { return 0 <= n && n < place }
	return map[int64]bool{
		impl.BlockIn:    b.A == 0 && b.B == 0,
		impl.BlockAnd:   ahead(b.A) && ahead(b.B),
		impl.BlockOr:    ahead(b.A) && ahead(b.B),
		impl.BlockNot:   ahead(b.A) && b.B == 0,
		impl.BlockPrev:  0 <= b.A && b.A < count && b.B == 0,
		impl.BlockLatch: ahead(b.A) && ahead(b.B),
		impl.BlockDelay: ahead(b.A) && 1 <= b.B && b.B <= 100,
	}[b.Kind]
}

// plainProgRight goes by the sets of what may be, not by their order.
func plainProgRight(p impl.Prog) bool {
	names, outs, nevers := map[string]bool{}, map[int64]bool{}, map[impl.Pair]bool{}
	for place, b := range p.Blocks {
		names[b.Name] = true
		if !plainName.MatchString(b.Name) || slices.Contains(progWords(), b.Name) || !plainBlock(b, int64(place), int64(len(p.Blocks))) {
			return false
		}
	}
	for _, place := range p.Outs {
		outs[place] = true
		if place < 0 || place >= int64(len(p.Blocks)) {
			return false
		}
	}
	for _, n := range p.Nevers {
		nevers[n] = true
		if !outs[n.A] || !outs[n.B] || n.A >= n.B {
			return false
		}
	}
	sorted := slices.IsSorted(p.Outs) && slices.IsSortedFunc(p.Nevers, func(a impl.Pair, b impl.Pair) int {
		return int((a.A-b.A)*1000 + a.B - b.B)
	})
	return sorted && len(p.Blocks) <= 100 && len(p.Nevers) <= 100 &&
		len(names) == len(p.Blocks) && len(outs) == len(p.Outs) && len(nevers) == len(p.Nevers)
}

// anyName is of the runes of names, short or as long as may be.
func anyName(random *rand.Rand) string {
	const runes = "abcdefghijklmnopqrstuvwxyz0123456789-"
	name := []byte{runes[random.Intn(26)]}
	for range []int{0, random.Intn(4), random.Intn(20), 19}[random.Intn(4)] {
		name = append(name, runes[random.Intn(len(runes))])
	}
	return string(name)
}

func anyNames(random *rand.Rand, count int) []string {
	var names []string
	for len(names) < count {
		name := anyName(random)
		if !slices.Contains(names, name) && !slices.Contains(progWords(), name) {
			names = append(names, name)
		}
	}
	return names
}

// anyBlock is one that may stand at the place.
func anyBlock(random *rand.Rand, name string, place int, count int) impl.LogicBlock {
	kind := []int64{impl.BlockIn, impl.BlockPrev}[random.Intn(2)]
	if place > 0 {
		kind = int64(1 + random.Intn(7))
	}
	ahead := func() int64 { return random.Int63n(int64(place)) }
	switch kind {
	case impl.BlockIn:
		return blockIn(name)
	case impl.BlockNot:
		return block(kind, name, ahead(), 0)
	case impl.BlockPrev:
		return block(kind, name, random.Int63n(int64(count)), 0)
	case impl.BlockDelay:
		return block(kind, name, ahead(), 1+random.Int63n(impl.MaxDelay))
	}
	return block(kind, name, ahead(), ahead())
}

// anyProg is a right one of up to so many blocks.
func anyProg(random *rand.Rand, most int) impl.Prog {
	var p impl.Prog
	count := random.Intn(most + 1)
	for place, name := range anyNames(random, count) {
		p.Blocks = append(p.Blocks, anyBlock(random, name, place, count))
	}
	often := 1 + random.Intn(4)
	for place := range int64(count) {
		if random.Intn(often) == 0 {
			p.Outs = append(p.Outs, place)
		}
	}
	seldom := 1 + random.Intn(4*len(p.Outs)+1)
	for i, a := range p.Outs {
		for _, b := range p.Outs[i+1:] {
			if random.Intn(seldom) == 0 && len(p.Nevers) < impl.MaxDiagram {
				p.Nevers = append(p.Nevers, impl.Pair{A: a, B: b})
			}
		}
	}
	return p
}

// turnProg changes one number or name of it.
func turnProg(random *rand.Rand, p *impl.Prog) {
	near := func(n *int64) { *n += random.Int63n(5) - 2 }
	switch {
	case random.Intn(2) == 0 && len(p.Nevers) > 0:
		n := &p.Nevers[random.Intn(len(p.Nevers))]
		near([]*int64{&n.A, &n.B}[random.Intn(2)])
	case random.Intn(3) == 0 && len(p.Outs) > 0:
		near(&p.Outs[random.Intn(len(p.Outs))])
	case len(p.Blocks) > 0:
		b := &p.Blocks[random.Intn(len(p.Blocks))]
		near([]*int64{&b.Kind, &b.A, &b.B}[random.Intn(3)])
		if random.Intn(8) == 0 {
			b.Name = p.Blocks[random.Intn(len(p.Blocks))].Name
		}
	}
}

func TestProgRightOfAny(t *testing.T) {
	random := rand.New(rand.NewSource(200))
	seen := map[bool]int{}
	for range 20000 {
		p := anyProg(random, []int{3, 8, impl.MaxDiagram}[random.Intn(3)])
		sameProgRight(t, "any", p, true)
		turnProg(random, &p)
		want := plainProgRight(p)
		seen[want]++
		sameProgRight(t, "any, turned", p, want)
		if t.Failed() {
			t.FailNow()
		}
	}
	if seen[true] < 3000 || seen[false] < 3000 {
		t.Errorf("%v: too few to tell", seen)
	}
}
