package tests

import (
	"fmt"
	"slices"
	"strings"
	"testing"

	"loop.example/g00290/impl"
)

// kidRegs are those of one of a node's kids, 0 without it.
func kidRegs(p impl.Program, k, i int) int {
	if i >= len(p.Nodes[k].Kids) {
		return 0
	}
	return regsByTheRules(p, p.Nodes[k].Kids[i])
}

// regsByTheRules is how many registers a value wants, as the chapter says it.
func regsByTheRules(p impl.Program, k int) int {
	if impl.DeepOf(p, k) == 0 {
		return 0
	}
	switch p.Nodes[k].Kind {
	case 1, 2:
		return 1
	case 3:
		first, behind := kidRegs(p, k, 0), kidRegs(p, k, 1)+1
		if first > behind {
			return first
		}
		return behind
	case 4, 5:
		return kidRegs(p, k, 0)
	}
	return 0
}

// placeByTheRules goes through the names from the last to the first, so that the first is what it ends with.
func placeByTheRules(x impl.Places, name string) int {
	place := -1
	for i := len(x.Names) - 1; i >= 0; i-- {
		if x.Names[i] != name {
			continue
		}
		place = -1
		if i < len(x.Ats) {
			place = x.Ats[i]
		}
	}
	return place
}

// kidWords are the words of one of a node's kids; none without it.
func kidWords(p impl.Program, k, i int, x impl.Places, reg int) ([]impl.Ins, bool) {
	if i >= len(p.Nodes[k].Kids) {
		return nil, false
	}
	return wordsByTheRules(p, p.Nodes[k].Kids[i], x, reg)
}

// wordsByTheRules are the words of a value as the chapter says them, asking at each part what is asked of the whole.
func wordsByTheRules(p impl.Program, k int, x impl.Places, reg int) ([]impl.Ins, bool) {
	regs := regsByTheRules(p, k)
	if regs == 0 || reg < 0 || reg > 7 || reg+regs > 7 {
		return nil, false
	}
	switch node := p.Nodes[k]; node.Kind {
	case 1:
		return []impl.Ins{insOf(1, reg, 0, node.Num)}, true
	case 2:
		place := placeByTheRules(x, node.Name)
		return []impl.Ins{insOf(2, reg, 0, place)}, place >= 0
	case 3:
		first, ok := kidWords(p, k, 0, x, reg)
		second, too := kidWords(p, k, 1, x, reg+1)
		return slices.Concat(first, second, []impl.Ins{insOf(4, reg, reg+1, node.Num)}), ok && too
	case 4:
		of, ok := kidWords(p, k, 0, x, reg)
		return append(of, insOf(5, reg, 0, 0)), ok
	default:
		of, ok := kidWords(p, k, 0, x, reg)
		return append(of, insOf(6, reg, 0, 0)), ok
	}
}

// genByTheRules asks both functions of a value in a register, and tells whether it has words.
func genByTheRules(t *testing.T, p impl.Program, k int, x impl.Places, reg int) bool {
	t.Helper()
	regsAre(t, p, k, regsByTheRules(p, k))
	want, ok := wordsByTheRules(p, k, x, reg)
	if !ok {
		genFails(t, p, k, x, reg)
		return false
	}
	genIs(t, p, k, x, reg, want...)
	return true
}

// placesFor has a place for each name of an Env, and memory in which its Vals are there, and other numbers between them.
func placesFor(e impl.Env) (impl.Places, []int) {
	x, mem := impl.Places{}, list(1)
	for i, name := range e.Names {
		mem = append(mem, e.Vals[i], 777+i)
		x.Names, x.Ats = append(x.Names, name), append(x.Ats, len(mem)-2)
	}
	return x, mem
}

// otherRegs are what registers have ahead of a value.
func otherRegs() []int { return list(11, -12, 13, -14, 15, -16, 17, -18) }

// runsAs asks that the words of a value, done one after the other, put into their register what ValueOf tells, or go wrong with its fault; and that they touch no register but those that the value wants. False when it has no words in this register.
func runsAs(t *testing.T, p impl.Program, k int, e impl.Env, reg int) bool {
	t.Helper()
	x, mem := placesFor(e)
	of, ok := impl.GenValue(p, k, x, reg)
	if !ok {
		return false
	}
	text, ok := impl.Assemble(of)
	if !ok || len(text) != len(of) {
		t.Fatalf("%s have no text", linesTold(of))
	}
	s, regs := stepped{coreOf(0, 2, otherRegs()...), mem, goesOn}, impl.RegsOf(p, k)
	for steps := 0; s.Code == goesOn && steps <= len(text); steps++ {
		s = step(s.Core, text, s.Mem)
		for r, n := range otherRegs() {
			if (r < reg || r >= reg+regs) && s.Core.Regs[r] != n {
				t.Fatalf("%s touch register %d", linesTold(of), r)
			}
		}
		if !slices.Equal(s.Mem, mem) || s.Core.Process != 2 {
			t.Fatalf("%s change %v into %s", linesTold(of), mem, steppedTold(s))
		}
	}
	n, fault := impl.ValueOf(p, k, e)
	switch {
	case fault != 0 && s.Code == fault && s.Core.Pc < len(text):
	case fault == 0 && s.Code == noWords && s.Core.Pc == len(text) && s.Core.Regs[reg] == n:
	default:
		t.Errorf("the value at %d of %.2000s with %s is %d, %d; its words %s in %d end as %s", k, told(impl.Program{Nodes: p.Nodes}), envTold(e), n, fault, linesTold(of), reg, steppedTold(s))
	}
	return true
}

// runEverywhere asks it of each register that the value may be put into, and tells of how many.
func runEverywhere(t *testing.T, p impl.Program, k int, e impl.Env) int {
	t.Helper()
	ran := 0
	for reg := -1; reg < 9; reg++ {
		ran += truth(runsAs(t, p, k, e, reg))
	}
	if want := max(8-impl.RegsOf(p, k), 0); ran != want {
		t.Errorf("the value at %d of %.2000s has words in %d registers; want %d", k, told(impl.Program{Nodes: p.Nodes}), ran, want)
	}
	return ran
}

// run asks it of these values, in each register.
func (g *grower) run(t *testing.T, e impl.Env, values ...valued) {
	t.Helper()
	for _, v := range values {
		runEverywhere(t, g.p, v.place, e)
	}
}

func TestWordsOfTextsAreRun(t *testing.T) {
	e := envOf("v x result none most least", 5, -3, 40, 0, impl.MaxVal, -impl.MaxVal)
	for _, value := range []string{
		"0", "7", "999999", "v", "x", "result", "not v", "not none", "- x", "- most", "- least", "not not v", "- - least",
		"1 + 2 * 3", "( 1 + 2 ) * 3", "8 - 3 - 2", "8 - ( 3 - 2 )", "- 17 / 5", "17 % - 5", "v < x", "x < v", "v = v", "v and none", "none or x",
		"v + x * result", "( v + x ) * result", "result - v = 35 and not ( x < - 3 )", "999999 + 1", "1000 * - 1000", "most + least", "least + 1 + most",
		"1 / 0", "1 % 0", "v / none", "v / ( v - 5 )", "999999 + 2", "- 999999 - 2", "1001 * 1000", "most + 1", "least - 1", "most * most", "most * 2 - most",
		"( 1 / 0 ) * 0", "not ( 1 / 0 )", "- ( most + 1 )", "( 1 / 0 ) + ( most + 1 )", "( most + 1 ) + ( 1 / 0 )", "0 and 1 / 0", "1 or 1 / 0", "1 or most + 1", "( most + 1 ) / 0",
		"1 + ( 2 + ( 3 + ( 4 + ( 5 + ( 6 + 7 ) ) ) ) )", "1 - ( 2 - ( 3 - ( 4 - ( 5 - ( 6 - ( 1 / 0 ) ) ) ) ) )", "( ( ( ( ( 1 - 2 ) - 3 ) - 4 ) - 5 ) - 6 ) - 7",
	} {
		p, k := valueFrom(t, value)
		if runEverywhere(t, p, k, e) == 0 && impl.RegsOf(p, k) < 8 {
			t.Errorf("%s was not run", value)
		}
	}
}

func TestWordsOfEachOperationAreRun(t *testing.T) {
	for _, op := range operations {
		for _, a := range valueEdges {
			for _, b := range valueEdges {
				g, e := grower{}, envOf("a b", a, b)
				left, right := g.name("a", a), g.name("b", b)
				g.run(t, e, left, right, g.not(left), g.minus(right), g.calc(op, left, right), g.calc(op, right, left), g.calc(op, g.minus(left), g.not(right)), g.not(g.calc(op, g.minus(right), left)))
			}
		}
	}
}

// Each operation over each two values of values.
func TestWordsOfValuesOfValuesAreRun(t *testing.T) {
	g, e := grower{}, envOf("v x", -4, 1000000)
	parts := g.grownOver([]valued{g.number(0), g.number(3), g.name("v", -4), g.name("x", 1000000)})
	g.run(t, e, parts...)
	shared := len(g.p.Nodes)
	for _, left := range parts {
		for i, right := range parts {
			g.p.Nodes = g.p.Nodes[:shared]
			both := g.calc(operations[(left.place+i)%len(operations)], left, right)
			if !runsAs(t, g.p, both.place, e, i%5) {
				t.Fatalf("%d and %d have no words", left.place, right.place)
			}
		}
	}
}

// deepParts are values of each depth, with the rest of them on one side, or on either one.
func (g *grower) deepParts(deep, turn int) valued {
	turn = (turn*31 + 7) % 1009
	switch {
	case deep == 1 && turn%3 == 0:
		return g.name("v", 3)
	case deep == 1:
		return g.number(turn % 50)
	case turn%7 == 0:
		return g.minus(g.deepParts(deep-1, turn))
	case turn%11 == 0:
		return g.not(g.deepParts(deep-1, turn))
	case turn%5 == 0:
		left := g.number(turn % 9)
		return g.calc(operations[turn%9], left, g.deepParts(deep-1, turn))
	}
	left := g.deepParts(deep-1, turn)
	if turn%3 == 0 {
		return g.calc(operations[turn%9], left, g.deepParts(deep-1, turn+1))
	}
	return g.calc(operations[turn%9], left, g.number(turn%9))
}

func TestWordsOfDeepValuesAreRun(t *testing.T) {
	regs := map[int]int{}
	for seed := range 2000 {
		g := grower{}
		of := g.deepParts(seed%impl.MaxDeep+1, seed)
		runEverywhere(t, g.p, of.place, envOf("v", 3))
		regs[impl.RegsOf(g.p, of.place)]++
		if t.Failed() {
			t.FailNow()
		}
	}
	for wanted := 1; wanted < 8; wanted++ {
		if regs[wanted] < 10 {
			t.Errorf("%d values wanted %d registers", regs[wanted], wanted)
		}
	}
}

func TestManyValuesByTheRules(t *testing.T) {
	some, none := 0, 0
	for seed := range 3000 {
		s := sown{turn: seed}
		k := s.value(1 + seed%impl.MaxDeep)
		x := placesOf("v w x none w", s.pick(9), s.pick(9), s.pick(9)-1, s.pick(9), s.pick(9))
		x.Names, x.Ats = x.Names[:5-s.pick(12)/11], x.Ats[:5-s.pick(12)/10]
		for reg := -1; reg < 9; reg++ {
			there := genByTheRules(t, s.p, k, x, reg)
			some, none = some+truth(there), none+truth(!there)
		}
		if t.Failed() {
			t.FailNow()
		}
	}
	if some < 2000 || none < 2000 {
		t.Errorf("%d have words, %d have none", some, none)
	}
}

// spoiledTree is a value in which nodes, most of them right, were exchanged.
func spoiledTree(seed int) impl.Program {
	s := sown{turn: seed}
	s.value(2 + seed%5)
	kinds := list(0, 1, 2, 3, 3, 4, 5, 6, 11, 13, 15, 19, 20, -1)
	for range 1 + s.pick(3) {
		node := &s.p.Nodes[s.pick(len(s.p.Nodes))]
		switch s.pick(4) {
		case 0:
			node.Kind = kinds[s.pick(len(kinds))]
		case 1:
			node.Num = append(notOperations, notValues...)[s.pick(19)]
		case 2:
			node.Kids = node.Kids[:s.pick(len(node.Kids)+1)]
		default:
			node.Kids = append(slices.Clone(node.Kids), s.pick(len(s.p.Nodes)+2)-1)
			s.turn++
		}
	}
	return s.p
}

// Of trees that aren't right, too, each value has the words that the chapter tells, or none.
func TestSpoiledTreesByTheRules(t *testing.T) {
	some, none := 0, 0
	for seed := range 3000 {
		p := spoiledTree(seed)
		for k := -1; k <= len(p.Nodes); k++ {
			there := genByTheRules(t, p, k, placesOf("v w x none", 3, 0, 99, 7), seed%4)
			some, none = some+truth(there), none+truth(!there)
		}
		if t.Failed() {
			t.FailNow()
		}
	}
	if some < 2000 || none < 2000 {
		t.Errorf("%d have words, %d have none", some, none)
	}
}

// Each node of programs as they are read, written and filled up.
func TestValuesOfProgramsByTheRules(t *testing.T) {
	some := 0
	for _, p := range append(askedPrograms(t), readFrom(t, everyKind), largest(), smallest(), chain(13), deepProgram(10), impl.Program{}) {
		for k := -2; k <= len(p.Nodes)+1; k++ {
			for reg := range 8 {
				some += truth(genByTheRules(t, p, k, placesOf("u v w x y result", 1, 2, 3, 4, 5, 6), reg))
			}
		}
	}
	if some < 100 {
		t.Errorf("%d have words", some)
	}
}

// Two values are worked out in registers side by side, and then put together: this is the value of both.
func TestValuesSideBySide(t *testing.T) {
	e := envOf("v w x none", 3, -7, 1000000, 0)
	x, mem := placesFor(e)
	seen := 0
	for seed := range 500 {
		s := sown{turn: seed}
		left := s.value(3)
		right := s.value(3)
		n, fault := impl.ValueOf(s.p, left, e)
		m, second := impl.ValueOf(s.p, right, e)
		if fault != 0 || second != 0 {
			continue
		}
		seen++
		first, _ := impl.GenValue(s.p, left, x, 1)
		more, _ := impl.GenValue(s.p, right, x, 2)
		text, ok := impl.Assemble(slices.Concat(first, more))
		end, _ := runsOn(impl.CoreNew(), text, mem, 1000)
		if !ok || end.Core.Pc != len(text) || !slices.Equal(end.Core.Regs[:3], list(0, n, m)) {
			t.Errorf("%s and %s end as %s; want %d and %d", linesTold(first), linesTold(more), steppedTold(end), n, m)
		}
	}
	if seen < 100 {
		t.Errorf("%d had values", seen)
	}
}

func TestWordsLeaveAllAsItWas(t *testing.T) {
	for _, fresh := range append(askedPrograms(t), readFrom(t, everyKind), largest(), chain(13), impl.Program{}) {
		p := withRooms(fresh)
		for _, x := range []impl.Places{{}, placesOf("u v w x y", 1, 2, 3, 4, 5), placesOf("x v x y", 9, 8), placesOf("v", 1, 2, 3)} {
			given := withRooms(x)
			was, wasPlaces := toldWithRoom(p), toldWithRoom(given)
			for k := -1; k <= len(p.Nodes); k++ {
				impl.RegsOf(p, k)
				impl.PlaceIn(given, "x")
				of, ok := impl.GenValue(p, k, given, 0)
				tight, same := impl.GenValue(fresh, k, x, 0)
				if ok != same || !slices.Equal(of, tight) {
					t.Fatalf("GenValue hangs on the room behind a list: %s, %s", linesTold(of), linesTold(tight))
				}
				isNewMemory(t, "GenValue", [][]impl.Line{of, tight}, p, given, fresh, x)
				spoilLines(of)
				if again, _ := impl.GenValue(p, k, given, 0); !slices.Equal(again, tight) {
					t.Fatal("what is done to an answer is seen elsewhere")
				}
			}
			if toldWithRoom(p) != was || toldWithRoom(given) != wasPlaces {
				t.Fatalf("what came in was %.1000s %.1000s and is %.1000s %.1000s", was, wasPlaces, toldWithRoom(p), toldWithRoom(given))
			}
		}
	}
}

// spoilLines writes into all that an answer has, and the room behind it.
func spoilLines(of []impl.Line) {
	of = of[:cap(of)]
	for i := range of {
		of[i] = impl.Line{Label: "spoiled", Ins: insOf(9, 9, 9, 9), Target: "spoiled"}
	}
}

func TestWordsInLongPrograms(t *testing.T) {
	g := grower{}
	for range 200000 {
		g.number(1)
	}
	x := impl.Places{Names: append(strings.Split(strings.Repeat("a ", 200000), " "), "v"), Ats: make([]int, 200002)}
	x.Ats[200001] = 17
	full := g.name("v", 0)
	for deep := 1; deep <= impl.MaxDeep; deep++ {
		of, ok := impl.GenValue(g.p, full.place, x, 0)
		if ok != (deep <= 7) || ok && (len(of) != 1<<deep-1 || of[0].Ins != insOf(impl.InLoad, 0, 0, 17)) {
			t.Errorf("a full tree %d deep has %s, %v", deep, linesTold(of), ok)
		}
		full = g.calc(impl.OpAdd, full, full)
	}
	genFails(t, impl.Program{Nodes: g.p.Nodes[full.place:]}, 0, x, 0)
	placeInIs(t, x, "v", 17)
	placeInIs(t, x, "", 0)
	placeInIs(t, x, "b", -1)
}

// A tree of any width: kids that no value has are gone past.
func TestWordsOfNodesWithManyKids(t *testing.T) {
	kids := make([]int, 300000)
	p := impl.Program{Nodes: []impl.Node{{Kind: impl.NdNum, Num: 3}}}
	for _, kind := range list(impl.NdCalc, impl.NdNot, impl.NdNeg, impl.NdCalc) {
		p.Nodes = append(p.Nodes, impl.Node{Kind: kind, Num: impl.OpMul, Kids: kids})
	}
	genIs(t, p, 1, impl.Places{}, 5, insOf(1, 5, 0, 3), insOf(1, 6, 0, 3), insOf(4, 5, 6, 3))
	genIs(t, p, 2, impl.Places{}, 6, insOf(1, 6, 0, 3), insOf(5, 6, 0, 0))
	genIs(t, p, 3, impl.Places{}, 0, insOf(1, 0, 0, 3), insOf(6, 0, 0, 0))
	regsAre(t, p, 4, 2)
	if told := fmt.Sprint(impl.GenValue(p, 4, impl.Places{}, 6)); told != "[] false" {
		t.Errorf("GenValue of two registers in 6 is %s", told)
	}
}
