package tests

import (
	"fmt"
	"math"
	"slices"
	"strings"
	"testing"

	"loop.example/g00290/impl"
)

// placesOf are Places with these names, and an At for each.
func placesOf(names string, ats ...int) impl.Places {
	return impl.Places{Names: strings.Fields(names), Ats: ats}
}

func placesTold(x impl.Places) string { return fmt.Sprintf("%.500q %v", x.Names, x.Ats) }

func placeInIs(t *testing.T, x impl.Places, name string, want int) {
	t.Helper()
	if got := impl.PlaceIn(x, name); got != want {
		t.Errorf("PlaceIn(%.2000s, %q) is %d; want %d", placesTold(x), name, got, want)
	}
}

func regsAre(t *testing.T, p impl.Program, k, want int) {
	t.Helper()
	if got := impl.RegsOf(p, k); got != want {
		t.Errorf("RegsOf at %d of %.2000s is %d; want %d", k, told(impl.Program{Nodes: p.Nodes}), got, want)
	}
}

// genIs asks for the words of a value, and for nothing else on their lines.
func genIs(t *testing.T, p impl.Program, k int, x impl.Places, reg int, want ...impl.Ins) {
	t.Helper()
	of := []impl.Line{}
	for _, ins := range want {
		of = append(of, impl.Line{Ins: ins})
	}
	if got, ok := impl.GenValue(p, k, x, reg); !ok || !slices.Equal(got, of) {
		t.Errorf("GenValue at %d of %.2000s with %.2000s in %d is %s, %v; want %s, true", k, told(impl.Program{Nodes: p.Nodes}), placesTold(x), reg, linesTold(got), ok, linesTold(of))
	}
}

func genFails(t *testing.T, p impl.Program, k int, x impl.Places, reg int) {
	t.Helper()
	if got, ok := impl.GenValue(p, k, x, reg); ok || len(got) != 0 {
		t.Errorf("GenValue at %d of %.2000s with %.2000s in %d is %s, %v; want nothing, false", k, told(impl.Program{Nodes: p.Nodes}), placesTold(x), reg, linesTold(got), ok)
	}
}

// valueFrom is a program that prints this value, and where the value is.
func valueFrom(t *testing.T, value string) (impl.Program, int) {
	t.Helper()
	p := readFrom(t, inBlock("print "+value))
	return p, len(p.Nodes) - 3
}

// textWords asks for the words of a value, each as its four figures, in register 0, and likewise in others as far as there is room.
func textWords(t *testing.T, value string, x impl.Places, regs int, words string) {
	t.Helper()
	p, k := valueFrom(t, value)
	regsAre(t, p, k, regs)
	for reg := range 9 {
		want := []impl.Ins{}
		for word := range strings.SplitSeq(words, ", ") {
			var ins impl.Ins
			fmt.Sscan(word, &ins.Op, &ins.A, &ins.B, &ins.C)
			ins.A += reg
			if ins.Op == impl.InCalc {
				ins.B += reg
			}
			want = append(want, ins)
		}
		if reg+regs > 7 {
			genFails(t, p, k, x, reg)
			continue
		}
		genIs(t, p, k, x, reg, want...)
	}
}

func TestWordsOfPlainValues(t *testing.T) {
	x := placesOf("v w result", 4, 0, 99)
	textWords(t, "0", x, 1, "1 0 0 0")
	textWords(t, "7", x, 1, "1 0 0 7")
	textWords(t, "999999", impl.Places{}, 1, "1 0 0 999999")
	textWords(t, "v", x, 1, "2 0 0 4")
	textWords(t, "w", x, 1, "2 0 0 0")
	textWords(t, "result", x, 1, "2 0 0 99")
	textWords(t, "not 7", x, 1, "1 0 0 7, 5 0 0 0")
	textWords(t, "not v", x, 1, "2 0 0 4, 5 0 0 0")
	textWords(t, "- 7", x, 1, "1 0 0 7, 6 0 0 0")
	textWords(t, "- v", x, 1, "2 0 0 4, 6 0 0 0")
	textWords(t, "not not 3", x, 1, "1 0 0 3, 5 0 0 0, 5 0 0 0")
	textWords(t, "- - v", x, 1, "2 0 0 4, 6 0 0 0, 6 0 0 0")
	textWords(t, "not - not v", x, 1, "2 0 0 4, 5 0 0 0, 6 0 0 0, 5 0 0 0")
	textWords(t, "- not - v", x, 1, "2 0 0 4, 6 0 0 0, 5 0 0 0, 6 0 0 0")
}

func TestWordsOfEachOperation(t *testing.T) {
	x := placesOf("v w", 4, 5)
	for op := 1; op <= 9; op++ {
		sign := " " + theOperations[op] + " "
		textWords(t, "1"+sign+"2", x, 2, fmt.Sprintf("1 0 0 1, 1 1 0 2, 4 0 1 %d", op))
		textWords(t, "v"+sign+"w", x, 2, fmt.Sprintf("2 0 0 4, 2 1 0 5, 4 0 1 %d", op))
		textWords(t, "w"+sign+"2", x, 2, fmt.Sprintf("2 0 0 5, 1 1 0 2, 4 0 1 %d", op))
		textWords(t, "v"+sign+"v", x, 2, fmt.Sprintf("2 0 0 4, 2 1 0 4, 4 0 1 %d", op))
		textWords(t, "not ( v"+sign+"3 )", x, 2, fmt.Sprintf("2 0 0 4, 1 1 0 3, 4 0 1 %d, 5 0 0 0", op))
		textWords(t, "- ( 3"+sign+"v )", x, 2, fmt.Sprintf("1 0 0 3, 2 1 0 4, 4 0 1 %d, 6 0 0 0", op))
		textWords(t, "( not v )"+sign+"( - 3 )", x, 2, fmt.Sprintf("2 0 0 4, 5 0 0 0, 1 1 0 3, 6 1 0 0, 4 0 1 %d", op))
	}
}

func TestWordsOfValuesInValues(t *testing.T) {
	x := placesOf("v w", 4, 5)
	textWords(t, "1 + 2 * 3", x, 3, "1 0 0 1, 1 1 0 2, 1 2 0 3, 4 1 2 3, 4 0 1 1")
	textWords(t, "( 1 + 2 ) * 3", x, 2, "1 0 0 1, 1 1 0 2, 4 0 1 1, 1 1 0 3, 4 0 1 3")
	textWords(t, "1 - 2 - 3", x, 2, "1 0 0 1, 1 1 0 2, 4 0 1 2, 1 1 0 3, 4 0 1 2")
	textWords(t, "1 - ( 2 - 3 )", x, 3, "1 0 0 1, 1 1 0 2, 1 2 0 3, 4 1 2 2, 4 0 1 2")
	textWords(t, "( v + 1 ) * ( w - 2 )", x, 3, "2 0 0 4, 1 1 0 1, 4 0 1 1, 2 1 0 5, 1 2 0 2, 4 1 2 2, 4 0 1 3")
	textWords(t, "v < 3 and not ( w = 4 )", x, 3, "2 0 0 4, 1 1 0 3, 4 0 1 6, 2 1 0 5, 1 2 0 4, 4 1 2 7, 5 1 0 0, 4 0 1 8")
	textWords(t, "- ( 1 / ( v % ( 2 or w ) ) )", x, 4, "1 0 0 1, 2 1 0 4, 1 2 0 2, 2 3 0 5, 4 2 3 9, 4 1 2 5, 4 0 1 4, 6 0 0 0")
}

// deepTo is a value of numbers that wants so many registers: each operation has the rest of it on its right.
func (g *grower) deepTo(wanted int) valued {
	if wanted == 1 {
		return g.number(1)
	}
	left := g.number(wanted)
	return g.calc(impl.OpAdd, left, g.deepTo(wanted-1))
}

// leftDeep is a value that is this deep, with the rest of it on the left of each operation.
func (g *grower) leftDeep(deep int) valued {
	if deep == 1 {
		return g.number(1)
	}
	left := g.leftDeep(deep - 1)
	return g.calc(impl.OpAdd, left, g.number(deep))
}

// wants asks how many registers a value wants.
func (g *grower) wants(t *testing.T, of valued, regs int) {
	t.Helper()
	regsAre(t, g.p, of.place, regs)
}

func TestRegistersOfDeepValues(t *testing.T) {
	for wanted := 1; wanted <= impl.MaxDeep; wanted++ {
		g := grower{}
		right, left := g.deepTo(wanted), g.leftDeep(wanted)
		g.wants(t, right, wanted)
		g.wants(t, left, min(wanted, 2))
		if wanted < impl.MaxDeep {
			g.wants(t, g.not(right), wanted)
			g.wants(t, g.minus(right), wanted)
			g.wants(t, g.not(left), min(wanted, 2))
			g.wants(t, g.minus(left), min(wanted, 2))
		}
	}
}

// Each count of the first kid with each of the second one: more, as many, one more, one fewer, and far fewer.
func TestRegistersOfBothKids(t *testing.T) {
	for first := 1; first < impl.MaxDeep; first++ {
		for second := 1; second < impl.MaxDeep; second++ {
			for _, op := range operations {
				g := grower{}
				left := g.deepTo(first)
				both := g.calc(op, left, g.deepTo(second))
				want := first
				if second+1 > first {
					want = second + 1
				}
				g.wants(t, both, want)
				if want > 7 {
					genFails(t, g.p, both.place, impl.Places{}, 0)
					continue
				}
				of, ok := impl.GenValue(g.p, both.place, impl.Places{}, 7-want)
				if !ok || len(of) != len(g.p.Nodes) || highest(of) != 6 {
					t.Errorf("%d and %d registers: %s, %v", first, second, linesTold(of), ok)
				}
				genFails(t, g.p, both.place, impl.Places{}, 8-want)
			}
		}
	}
}

// highest is the last register that words name.
func highest(of []impl.Line) int {
	last := -1
	for _, l := range of {
		last = max(last, l.Ins.A, l.Ins.B)
	}
	return last
}

func TestRegistersThatAreUsedUp(t *testing.T) {
	regs := []int{math.MinInt, math.MinInt + 1, math.MinInt + 7, -1 << 32, -256, -8, -7, -6, -3, -2, -1, 0, 1, 2, 3, 4, 5, 6, 7, 8, 9, 10, 255, 256, 257, 1 << 32, 1<<32 + 1, math.MaxInt - 10, math.MaxInt - 8, math.MaxInt - 7, math.MaxInt - 6, math.MaxInt - 1, math.MaxInt}
	for wanted := 1; wanted <= impl.MaxDeep; wanted++ {
		g := grower{}
		of := g.deepTo(wanted)
		g.wants(t, of, wanted)
		for _, reg := range regs {
			if reg < 0 || reg > 7 || reg+wanted > 7 {
				genFails(t, g.p, of.place, impl.Places{}, reg)
				continue
			}
			got, ok := impl.GenValue(g.p, of.place, impl.Places{}, reg)
			if !ok || len(got) != 2*wanted-1 || highest(got) != reg+wanted-1 {
				t.Errorf("%d registers in %d: %s, %v", wanted, reg, linesTold(got), ok)
			}
		}
	}
}

// One that wants all seven registers is in 0 alone, and one that wants eight is nowhere.
func TestTheLastRegisterIsLeft(t *testing.T) {
	textWords(t, "1 + ( 2 + ( 3 + ( 4 + ( 5 + ( 6 + 7 ) ) ) ) )", impl.Places{}, 7,
		"1 0 0 1, 1 1 0 2, 1 2 0 3, 1 3 0 4, 1 4 0 5, 1 5 0 6, 1 6 0 7, 4 5 6 1, 4 4 5 1, 4 3 4 1, 4 2 3 1, 4 1 2 1, 4 0 1 1")
	textWords(t, "1 + ( 2 + ( 3 + ( 4 + ( 5 + 6 ) ) ) )", impl.Places{}, 6,
		"1 0 0 1, 1 1 0 2, 1 2 0 3, 1 3 0 4, 1 4 0 5, 1 5 0 6, 4 4 5 1, 4 3 4 1, 4 2 3 1, 4 1 2 1, 4 0 1 1")
	p, k := valueFrom(t, "1 + ( 2 + ( 3 + ( 4 + ( 5 + ( 6 + ( 7 + 8 ) ) ) ) ) )")
	regsAre(t, p, k, 8)
	for reg := -1; reg < 9; reg++ {
		genFails(t, p, k, impl.Places{}, reg)
	}
}

func TestPlacesOfNames(t *testing.T) {
	x := placesOf("v w result v", 4, 0, impl.MaxArg, 7)
	placeInIs(t, x, "v", 4)
	placeInIs(t, x, "w", 0)
	placeInIs(t, x, "result", impl.MaxArg)
	for _, name := range []string{"", "x", "vv", "V", "v ", "resul", "results", "\x00", "\xff"} {
		placeInIs(t, x, name, -1)
		placeInIs(t, impl.Places{}, name, -1)
	}
	// A name that stands there is found, whatever it is, and so is whatever stands at its place.
	for _, name := range append([]string{"", "begin", "abcdefghi"}, notNames...) {
		for _, at := range list(-1, -2, 0, 1, 99, 100, impl.MaxArg, impl.MaxArg+1, math.MaxInt, math.MinInt) {
			placeInIs(t, impl.Places{Names: []string{"first", name}, Ats: list(5, at)}, name, at)
			placeInIs(t, impl.Places{Names: []string{name, name, "last"}, Ats: list(at, 5, 6)}, name, at)
		}
	}
}

func TestPlacesOfUnlikeLength(t *testing.T) {
	short := placesOf("v w x y", 4, 5)
	placeInIs(t, short, "v", 4)
	placeInIs(t, short, "w", 5)
	placeInIs(t, short, "x", -1)
	placeInIs(t, short, "y", -1)
	long := placesOf("v w", 4, 5, 6, 7)
	placeInIs(t, long, "v", 4)
	placeInIs(t, long, "w", 5)
	placeInIs(t, long, "x", -1)
	placeInIs(t, long, "", -1)
	placeInIs(t, placesOf("v"), "v", -1)
	placeInIs(t, impl.Places{Ats: list(4)}, "", -1)
	// A name that stands twice has its first place, or none.
	placeInIs(t, placesOf("v w v w", 4, 5, 6), "w", 5)
	placeInIs(t, placesOf("x v w v", 4, 5, 6), "v", 5)
	placeInIs(t, placesOf("x v v", 4), "v", -1)
	// What stands in the room behind a list is none of it.
	room := placesOf("v w x", 4, 5, 6)
	placeInIs(t, impl.Places{Names: room.Names[:2], Ats: room.Ats}, "x", -1)
	placeInIs(t, impl.Places{Names: room.Names, Ats: room.Ats[:2]}, "x", -1)
	placeInIs(t, impl.Places{Names: room.Names, Ats: room.Ats[:2]}, "w", 5)
}

func TestWordsOfNames(t *testing.T) {
	p, k := valueFrom(t, "v")
	for _, at := range list(0, 1, 4, 99, 100, impl.MaxArg-1, impl.MaxArg) {
		for reg := range 7 {
			genIs(t, p, k, placesOf("w v", 3, at), reg, insOf(impl.InLoad, reg, 0, at))
			genIs(t, p, k, placesOf("v w v", at, 3, 8), reg, insOf(impl.InLoad, reg, 0, at))
		}
		if of, ok := impl.GenValue(p, k, placesOf("v", at), 6); !ok || !impl.LinesOk(of) {
			t.Errorf("a load of %d is %s, %v", at, linesTold(of), ok)
		}
	}
	genIs(t, p, k, placesOf("v w x y", 4, 5), 0, insOf(impl.InLoad, 0, 0, 4))
	genIs(t, p, k, placesOf("w v", 4, 5, 6), 0, insOf(impl.InLoad, 0, 0, 5))
}

// A name that has no place, wherever it stands, leaves no words.
func TestNamesThatAreNowhere(t *testing.T) {
	nowhere := []impl.Places{{}, placesOf("w x", 4, 5), placesOf("w v", 4), placesOf("v"), placesOf("w v v", 4), {Ats: list(1, 2, 3)}, placesOf("w v", 4, -1), placesOf("w v", 4, -2), placesOf("w v v", 4, math.MinInt, 5)}
	for _, value := range []string{"v", "not v", "- v", "v + 1", "1 + v", "v + v", "w + v", "v < w", "( 1 + v ) * 2", "( v - 1 ) * 2", "2 * ( 1 - v )", "2 * ( v - 1 )", "0 and v", "1 or v", "not ( 1 - - v )", "1 + ( 2 + ( 3 + ( 4 + v ) ) )"} {
		p, k := valueFrom(t, value)
		for _, x := range nowhere {
			for reg := range 3 {
				genFails(t, p, k, x, reg)
			}
		}
		there := placesOf("w v", 4, 5)
		if _, ok := impl.GenValue(p, k, there, 0); !ok {
			t.Errorf("GenValue of %s is false with %s", value, placesTold(there))
		}
	}
	// How many registers it wants doesn't hang on its places.
	p, k := valueFrom(t, "none + none * none")
	regsAre(t, p, k, 3)
}

func TestWordsOfTheGreatestNumber(t *testing.T) {
	for _, n := range list(0, 1, 999999, impl.MaxVal) {
		g := grower{}
		of := g.number(n)
		minus := g.minus(of)
		genIs(t, g.p, of.place, impl.Places{}, 6, insOf(impl.InPut, 6, 0, n))
		genIs(t, g.p, minus.place, impl.Places{}, 0, insOf(impl.InPut, 0, 0, n), insOf(impl.InNeg, 0, 0, 0))
		got, _ := impl.GenValue(g.p, of.place, impl.Places{}, 0)
		assembles(t, got, wordOf(impl.InPut, 0, 0, n))
	}
}

func TestValuesTooDeepForWords(t *testing.T) {
	for deep := 1; deep < 14; deep++ {
		p := chain(deep)
		if deep > impl.MaxDeep {
			regsAre(t, p, deep-1, 0)
			genFails(t, p, deep-1, impl.Places{}, 0)
			continue
		}
		want := append([]impl.Ins{insOf(impl.InPut, 3, 0, 0)}, slices.Repeat([]impl.Ins{insOf(impl.InNot, 3, 0, 0)}, deep-1)...)
		regsAre(t, p, deep-1, 1)
		genIs(t, p, deep-1, impl.Places{}, 3, want...)
	}
	// What is ahead of one that is too deep is not, and what is behind it has no depth.
	p := chain(11)
	p.Nodes = append(p.Nodes, impl.Node{Kind: impl.NdNum})
	regsAre(t, p, 9, 1)
	regsAre(t, p, 11, 0)
	genFails(t, p, 11, impl.Places{}, 0)
}

func TestWordsOfNodesThatAreNowhere(t *testing.T) {
	x := placesOf("v", 4)
	for _, p := range []impl.Program{readFrom(t, inBlock("print 1 + 2")), readFrom(t, everyKind), chain(10)} {
		for _, k := range placesBeyond(len(p.Nodes)) {
			regsAre(t, p, k, 0)
			for reg := -1; reg < 8; reg++ {
				genFails(t, p, k, x, reg)
			}
		}
	}
	for _, k := range list(-1, 0, 1, math.MaxInt, math.MinInt) {
		regsAre(t, impl.Program{}, k, 0)
		genFails(t, impl.Program{}, k, x, 0)
		genFails(t, impl.Program{Nodes: []impl.Node{}}, k, impl.Places{}, 0)
	}
	// A node in the room behind Nodes is none of them.
	p := chain(3)
	regsAre(t, impl.Program{Nodes: p.Nodes[:2]}, 2, 0)
	genFails(t, impl.Program{Nodes: p.Nodes[:2]}, 2, x, 0)
}

func TestWordsOfNodesThatAreNoValues(t *testing.T) {
	p := readFrom(t, everyKind)
	x := placesOf("u v w x y n result", 1, 2, 3, 4, 5, 6, 7)
	for k, node := range p.Nodes {
		if node.Kind > impl.NdNeg {
			regsAre(t, p, k, 0)
			genFails(t, p, k, x, 0)
		}
	}
	number := impl.Node{Kind: impl.NdNum, Num: 7}
	for _, kids := range [][]int{nil, {0}, {0, 1}, {0, 1, 2}} {
		for _, kind := range append(slices.Clone(notKinds), 11, 12, 13, 14, 15, 16, 17, 18, 19, 20) {
			p := impl.Program{Nodes: []impl.Node{number, number, number, {Kind: kind, Num: 1, Name: "x", Kids: kids}}}
			regsAre(t, p, 3, 0)
			genFails(t, p, 3, x, 0)
		}
	}
}

// Of a node that has no depth there are no words, even if what is wrong is elsewhere ahead of it; what is behind it doesn't count.
func TestWordsOfNodesWithoutADepth(t *testing.T) {
	number := impl.Node{Kind: impl.NdNum, Num: 7}
	for _, kid := range []int{-1, 0, 1, 5, 1 << 40, math.MaxInt, math.MinInt} {
		for _, kids := range [][]int{{kid}, {kid, 0}, {0, kid}} {
			for _, kind := range list(impl.NdNum, impl.NdVar, impl.NdCalc, impl.NdNot, impl.NdNeg, impl.NdSkip) {
				if kid == 0 {
					continue
				}
				p := impl.Program{Nodes: []impl.Node{number, {Kind: kind, Num: 1, Name: "v", Kids: kids}, number}}
				regsAre(t, p, 0, 1)
				genIs(t, p, 0, placesOf("v", 4), 0, insOf(impl.InPut, 0, 0, 7))
				for _, k := range list(1, 2) {
					regsAre(t, p, k, 0)
					genFails(t, p, k, placesOf("v", 4), 0)
				}
			}
		}
		p := impl.Program{Nodes: []impl.Node{{Kind: impl.NdNot, Kids: list(kid)}}}
		regsAre(t, p, 0, 0)
		genFails(t, p, 0, impl.Places{}, 0)
	}
}

// A part that is no value, or is not there, leaves no words of the whole.
func TestWordsOfPartsThatAreNoValues(t *testing.T) {
	nodes := []impl.Node{
		{Kind: impl.NdNum, Num: 7}, {Kind: impl.NdNum, Num: 8}, {Kind: impl.NdSkip}, {Kind: impl.NdBlock, Kids: list(2)},
		{Kind: 0}, {Kind: impl.NdSet, Name: "x", Kids: list(0)},
	}
	place := len(nodes)
	fails := func(node impl.Node) {
		t.Helper()
		p := impl.Program{Nodes: append(slices.Clone(nodes), node)}
		for reg := range 3 {
			genFails(t, p, place, placesOf("x", 3), reg)
		}
		// Nor of a whole that it is a part of.
		p.Nodes = append(p.Nodes, impl.Node{Kind: impl.NdCalc, Num: impl.OpAdd, Kids: list(0, place)}, impl.Node{Kind: impl.NdCalc, Num: impl.OpAdd, Kids: list(place, 0)}, impl.Node{Kind: impl.NdNot, Kids: list(place)})
		for k := place + 1; k < len(p.Nodes); k++ {
			genFails(t, p, k, placesOf("x", 3), 0)
		}
	}
	for _, kind := range list(impl.NdNot, impl.NdNeg) {
		fails(impl.Node{Kind: kind})
		for _, wrong := range list(2, 3, 4, 5) {
			fails(impl.Node{Kind: kind, Kids: list(wrong)})
			regsAre(t, impl.Program{Nodes: append(slices.Clone(nodes), impl.Node{Kind: kind, Kids: list(wrong)})}, place, 0)
		}
	}
	for _, op := range operations {
		fails(impl.Node{Kind: impl.NdCalc, Num: op})
		fails(impl.Node{Kind: impl.NdCalc, Num: op, Kids: list(0)})
		for _, wrong := range list(2, 3, 4, 5) {
			fails(impl.Node{Kind: impl.NdCalc, Num: op, Kids: list(wrong, 0)})
			fails(impl.Node{Kind: impl.NdCalc, Num: op, Kids: list(0, wrong)})
			fails(impl.Node{Kind: impl.NdCalc, Num: op, Kids: list(wrong, wrong)})
		}
	}
}

// Whether a node is right is not asked: what it needs is taken from it as it stands.
func TestWordsOfNodesThatAreNotRight(t *testing.T) {
	number := func(n int) impl.Node { return impl.Node{Kind: impl.NdNum, Num: n} }
	asks := func(nodes []impl.Node, regs int, want ...impl.Ins) {
		t.Helper()
		p, k := impl.Program{Nodes: nodes}, len(nodes)-1
		regsAre(t, p, k, regs)
		genIs(t, p, k, placesOf("v", 4), 0, want...)
	}
	put := func(reg, n int) impl.Ins { return insOf(impl.InPut, reg, 0, n) }
	asks([]impl.Node{number(3), {Kind: impl.NdCalc, Num: impl.OpAdd, Kids: list(0, 0)}}, 2, put(0, 3), put(1, 3), insOf(impl.InCalc, 0, 1, impl.OpAdd))
	asks([]impl.Node{number(3), number(4), {Kind: impl.NdSkip}, {Kind: impl.NdCalc, Num: impl.OpSub, Name: "v", More: "m", To: "t", Kids: list(0, 1, 2)}}, 2, put(0, 3), put(1, 4), insOf(impl.InCalc, 0, 1, impl.OpSub))
	asks([]impl.Node{number(3), number(4), {Kind: impl.NdNeg, Num: 8, Name: "v", Kids: list(0, 1)}}, 1, put(0, 3), insOf(impl.InNeg, 0, 0, 0))
	asks([]impl.Node{number(3), {Kind: impl.NdSkip}, {Kind: impl.NdNot, Num: 8, Kids: list(0, 1)}}, 1, put(0, 3), insOf(impl.InNot, 0, 0, 0))
	asks([]impl.Node{number(3), {Kind: impl.NdNum, Num: 9, Name: "v", Kids: list(0)}}, 1, put(0, 9))
	asks([]impl.Node{number(3), {Kind: impl.NdVar, Num: 9, Name: "v", More: "w", Kids: list(0)}}, 1, insOf(impl.InLoad, 0, 0, 4))
	for _, name := range append([]string{""}, notNames...) {
		p := impl.Program{Nodes: []impl.Node{{Kind: impl.NdVar, Name: name}}}
		genIs(t, p, 0, impl.Places{Names: []string{"v", name}, Ats: list(4, 5)}, 2, insOf(impl.InLoad, 2, 0, 5))
		genFails(t, p, 0, placesOf("v", 4), 2)
	}
	// Monitors and processes aren't asked for, nor the rest of the tree.
	p := readFrom(t, everyKind)
	for k := range p.Nodes {
		of, ok := impl.GenValue(p, k, placesOf("u v w x y", 1, 2, 3, 4, 5), 0)
		alone, same := impl.GenValue(impl.Program{Nodes: p.Nodes[:k+1]}, k, placesOf("u v w x y", 1, 2, 3, 4, 5), 0)
		if ok != same || !slices.Equal(of, alone) {
			t.Errorf("GenValue at %d is %s, %v, and of the nodes up to it %s, %v", k, linesTold(of), ok, linesTold(alone), same)
		}
	}
}
