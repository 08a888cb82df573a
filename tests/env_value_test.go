package tests

import (
	"slices"
	"strings"
	"testing"

	"loop.example/g00290/impl"
)

// outcome is what a value should be, and its fault; with a fault it is 0.
type outcome struct{ n, fault int }

func valueIs(t *testing.T, p impl.Program, k int, e impl.Env, want outcome) {
	t.Helper()
	if n, fault := impl.ValueOf(p, k, e); n != want.n || fault != want.fault {
		t.Errorf("ValueOf at %d of %.2000s with %.500s = %d, %d; want %d, %d", k, told(impl.Program{Nodes: p.Nodes}), envTold(e), n, fault, want.n, want.fault)
	}
}

// valued is a value in a program, and what it should be.
type valued struct {
	place int
	outcome
}

// within is a value with or without a fault.
func within(n int) outcome {
	if n < -1000000 || n > 1000000 {
		return outcome{0, impl.FaultRange}
	}
	return outcome{n, 0}
}

func (g *grower) number(n int) valued {
	return valued{g.add(impl.Node{Kind: impl.NdNum, Num: n}), outcome{n, 0}}
}

// name is a name that stands for this.
func (g *grower) name(name string, n int) valued {
	return valued{g.add(impl.Node{Kind: impl.NdVar, Name: name}), outcome{n, 0}}
}

func (g *grower) minus(of valued) valued {
	want := of.outcome
	if want.fault == 0 {
		want = within(-want.n)
	}
	return valued{g.add(impl.Node{Kind: impl.NdNeg, Kids: []int{of.place}}), want}
}

func (g *grower) not(of valued) valued {
	want := of.outcome
	if want.fault == 0 {
		want = outcome{truth(of.n == 0), 0}
	}
	return valued{g.add(impl.Node{Kind: impl.NdNot, Kids: []int{of.place}}), want}
}

// calc is both by this operation: the fault of the left one is told first, then that of the right one, then its own.
func (g *grower) calc(op int, left, right valued) valued {
	place := g.add(impl.Node{Kind: impl.NdCalc, Num: op, Kids: []int{left.place, right.place}})
	switch {
	case left.fault != 0:
		return valued{place, left.outcome}
	case right.fault != 0:
		return valued{place, right.outcome}
	case within(left.n).fault != 0 || within(right.n).fault != 0:
		return valued{place, outcome{0, impl.FaultRange}}
	case right.n == 0 && (op == impl.OpDiv || op == impl.OpMod):
		return valued{place, outcome{0, impl.FaultZero}}
	case right.n == 0:
		// wanted divides, whatever it is asked for, so that it isn't asked for a second value of 0.
		return valued{place, outcome{[...]int{0, left.n, left.n, 0, 0, 0, truth(left.n < 0), truth(left.n == 0), 0, truth(left.n != 0)}[op], 0}}
	}
	return valued{place, within(wanted(op, left.n, right.n))}
}

// is asks each of these values.
func (g *grower) is(t *testing.T, e impl.Env, values ...valued) {
	t.Helper()
	for _, v := range values {
		valueIs(t, g.p, v.place, e, v.outcome)
	}
}

// textIs asks what a value is that is printed by a process.
func textIs(t *testing.T, value string, e impl.Env, want outcome) {
	t.Helper()
	p := readFrom(t, inBlock("print "+value))
	last := len(p.Nodes) - 1
	if n, fault := impl.ValueOf(p, last-2, e); n != want.n || fault != want.fault {
		t.Errorf("ValueOf %s with %s = %d, %d; want %d, %d", value, envTold(e), n, fault, want.n, want.fault)
	}
}

func TestValuesOfTexts(t *testing.T) {
	e := envOf("v x result", 5, -3, 40)
	for value, want := range map[string]int{
		"0": 0, "7": 7, "999999": 999999, "v": 5, "x": -3, "result": 40, "none": 0,
		"1 + 2 * 3": 7, "( 1 + 2 ) * 3": 9, "8 - 3 - 2": 3, "8 - ( 3 - 2 )": 7, "17 / 5": 3, "17 % 5": 2, "- 17 / 5": -3, "- 17 % 5": -2,
		"3 < 4": 1, "4 < 4": 0, "4 = 4": 1, "4 = 3": 0, "2 and 3": 1, "0 and 3": 0, "3 and 0": 0, "0 or 0": 0, "0 or 2": 1, "2 or 0": 1,
		"not 0": 1, "not 5": 0, "not v": 0, "not none": 1, "not not v": 1, "- v": -5, "- x": 3, "- - v": 5, "not - v": 0, "- not 0": -1,
		"v + x": 2, "v - x": 8, "v * x": -15, "v / x": -1, "v % x": 2, "x < v": 1, "v = x": 0, "v and none": 0, "none or x": 1,
		"v + x * result": -115, "( v + x ) * result": 80, "result - v = 35 and not ( x < - 3 )": 1, "none + none": 0, "- none": 0,
		"999999 + 1": 1000000, "- 999999 - 1": -1000000, "1000 * 1000": 1000000, "1000 * - 1000": -1000000,
	} {
		textIs(t, value, e, outcome{want, 0})
	}
}

func TestFaultsOfTexts(t *testing.T) {
	e := envOf("v most least", 5, impl.MaxVal, -impl.MaxVal)
	for value, fault := range map[string]int{
		"1 / 0": impl.FaultZero, "1 % 0": impl.FaultZero, "v / none": impl.FaultZero, "v / ( v - 5 )": impl.FaultZero, "0 / 0": impl.FaultZero,
		"999999 + 2": impl.FaultRange, "- 999999 - 2": impl.FaultRange, "1001 * 1000": impl.FaultRange, "most + 1": impl.FaultRange, "least - 1": impl.FaultRange,
		"most * most": impl.FaultRange, "most * 2 - most": impl.FaultRange, "( 1 / 0 ) * 0": impl.FaultZero, "not ( 1 / 0 )": impl.FaultZero, "- ( most + 1 )": impl.FaultRange,
	} {
		textIs(t, value, e, outcome{0, fault})
	}
	textIs(t, "most + least", e, outcome{0, 0})
	textIs(t, "- most", e, outcome{-impl.MaxVal, 0})
	textIs(t, "- least", e, outcome{impl.MaxVal, 0})
	textIs(t, "least + 1 + most", e, outcome{1, 0})
}

// A fault on the right is told, whatever stands on the left of an `and` or an `or`.
func TestBothSidesAreAsked(t *testing.T) {
	e := envOf("none one v", 0, 1, -7)
	for _, op := range []string{"and", "or"} {
		for _, left := range []string{"0", "1", "2", "none", "one", "v", "not 0", "not 1", "( 1 < 2 )", "( 0 or 1 )", "( 1 and 0 )"} {
			for right, fault := range map[string]int{
				"1 / 0": impl.FaultZero, "1 % 0": impl.FaultZero, "1 / none": impl.FaultZero, "1000 * 1001": impl.FaultRange,
				"not ( 1 / 0 )": impl.FaultZero, "- ( 1 % none )": impl.FaultZero, "0 and 1 / 0": impl.FaultZero, "1 or 1000 * 1001": impl.FaultRange,
			} {
				want := outcome{0, fault}
				textIs(t, left+" "+op+" ( "+right+" )", e, want)
				textIs(t, "( "+right+" ) "+op+" "+left, e, want)
				textIs(t, "not ( "+left+" "+op+" ( "+right+" ) )", e, want)
				textIs(t, "0 and ( 1 or ( "+left+" "+op+" ( "+right+" ) ) )", e, want)
			}
		}
	}
}

func TestTheFirstFaultFromTheLeft(t *testing.T) {
	zero, far := "1 / 0", "1000 * 1001"
	for _, op := range theOperations[1:] {
		for _, around := range [][2]string{{"", ""}, {"not ", ""}, {"- ", ""}, {"1 + ", ""}, {"", " * 0"}, {"0 and ", ""}, {"1 or ", ""}, {"", " / 0"}} {
			put := func(value string) string { return "( " + around[0] + "( " + value + " )" + around[1] + " )" }
			textIs(t, put(zero)+" "+op+" "+put(far), impl.Env{}, outcome{0, impl.FaultZero})
			textIs(t, put(far)+" "+op+" "+put(zero), impl.Env{}, outcome{0, impl.FaultRange})
			textIs(t, put(zero)+" "+op+" 3", impl.Env{}, outcome{0, impl.FaultZero})
			textIs(t, "3 "+op+" "+put(far), impl.Env{}, outcome{0, impl.FaultRange})
		}
		textIs(t, "( 1 "+op+" ( 1 / 0 ) ) + ( 1000 * 1001 )", impl.Env{}, outcome{0, impl.FaultZero})
		textIs(t, "( 1 "+op+" ( 1000 * 1001 ) ) + ( 1 / 0 )", impl.Env{}, outcome{0, impl.FaultRange})
	}
	// What goes wrong in an operation is told after what goes wrong on either side of it.
	textIs(t, "999999 * ( 1 % 0 )", impl.Env{}, outcome{0, impl.FaultZero})
	textIs(t, "( 1000 * 1001 ) / 0", impl.Env{}, outcome{0, impl.FaultRange})
}

func TestEachOperationOfEachTwo(t *testing.T) {
	for _, op := range operations {
		for _, a := range valueEdges {
			for _, b := range valueEdges {
				g, e := grower{}, envOf("a b", a, b)
				left, right := g.name("a", a), g.name("b", b)
				g.is(t, e, left, right, g.calc(op, left, right), g.calc(op, right, left), g.calc(op, g.minus(left), g.not(right)), g.calc(op, g.not(left), g.minus(right)))
				if a >= 0 && b >= 0 {
					g.is(t, e, g.calc(op, g.number(a), g.number(b)), g.calc(op, g.number(a), right), g.calc(op, left, g.number(b)))
				}
			}
		}
	}
}

func TestMinusAndNot(t *testing.T) {
	for _, n := range valueEdges {
		g, e := grower{}, envOf("w v", 3, n)
		of := g.name("v", n)
		g.is(t, e, g.minus(of), g.not(of), g.minus(g.minus(of)), g.not(g.not(of)), g.minus(g.not(of)), g.not(g.minus(of)), g.not(g.minus(g.minus(of))))
	}
}

// grownOver are values over these: each of them, `-` and `not` of each, and each operation of each two.
func (g *grower) grownOver(parts []valued) []valued {
	values := slices.Clone(parts)
	for _, part := range parts {
		values = append(values, g.minus(part), g.not(part))
	}
	for _, op := range operations {
		for _, left := range parts {
			for _, right := range parts {
				values = append(values, g.calc(op, left, right))
			}
		}
	}
	return values
}

// A value is what its parts are: each operation over each two values of values.
func TestValuesOfValues(t *testing.T) {
	g, e := grower{}, envOf("v x", -4, 1000000)
	parts := g.grownOver([]valued{g.number(0), g.number(3), g.name("v", -4), g.name("x", 1000000)})
	g.is(t, e, parts...)
	shared := len(g.p.Nodes)
	for _, left := range parts {
		g.is(t, e, g.minus(left), g.not(left))
		for i, right := range parts {
			g.p.Nodes = g.p.Nodes[:shared]
			op := operations[(left.place+i)%len(operations)]
			g.is(t, e, g.calc(op, left, right))
		}
	}
}

// Trees of each depth that a value may have, which turn out otherwise with each seed.
func TestDeepValues(t *testing.T) {
	e := envOf("v", 3)
	for seed := range 300 {
		g := grower{}
		var grow func(deep, turn int) valued
		grow = func(deep, turn int) valued {
			turn = (turn*31 + 7) % 1009
			switch {
			case deep == 1 && turn%3 == 0:
				return g.name("v", 3)
			case deep == 1:
				return g.number(turn % 50)
			case turn%7 == 0:
				return g.minus(grow(deep-1, turn))
			case turn%11 == 0:
				return g.not(grow(deep-1, turn))
			}
			left := grow(deep-1, turn)
			return g.calc(operations[turn%len(operations)], left, grow(deep-1, turn+1))
		}
		g.is(t, e, grow(seed%impl.MaxDeep+1, seed))
	}
}

func TestTheDeepestValues(t *testing.T) {
	for deep := 1; deep < 14; deep++ {
		p := chain(deep)
		want := outcome{truth(deep%2 == 0), 0}
		if deep > impl.MaxDeep {
			want = outcome{0, impl.FaultRange}
		}
		valueIs(t, p, deep-1, impl.Env{}, want)
	}
	g := grower{}
	last := g.number(1)
	for deep := 1; deep < 14; deep++ {
		want := last.outcome
		if deep > impl.MaxDeep {
			want = outcome{0, impl.FaultRange}
		}
		valueIs(t, g.p, last.place, impl.Env{}, want)
		last = g.calc(impl.OpAdd, last, last)
	}
}

func TestValuesOfNames(t *testing.T) {
	for _, e := range allEnvs() {
		for _, name := range append([]string{"v", "w", "result", "none", "h", ""}, notNames...) {
			g := grower{}
			of := g.name(name, impl.GetIn(e, name))
			g.is(t, e, of, g.not(of), g.minus(of), g.calc(impl.OpAdd, of, g.number(1)), g.calc(impl.OpOr, g.number(1), of), g.calc(impl.OpAnd, of, of))
		}
	}
	textIs(t, "v + v * 10", envOf("w v v", 1, 2, 3), outcome{22, 0})
}

func TestNodesThatAreNowhere(t *testing.T) {
	p := readFrom(t, inBlock("print 1 + 2"))
	for _, k := range placesBeyond(len(p.Nodes)) {
		valueIs(t, p, k, impl.Env{}, outcome{0, impl.FaultRange})
	}
	for _, k := range []int{-1, 0, 1} {
		valueIs(t, impl.Program{}, k, envOf("v", 1), outcome{0, impl.FaultRange})
	}
}

func TestNodesThatAreNoValues(t *testing.T) {
	e := envOf("x", 5)
	p := readFrom(t, everyKind)
	for k, node := range p.Nodes {
		if node.Kind > impl.NdNeg {
			valueIs(t, p, k, e, outcome{0, impl.FaultRange})
		}
	}
	for _, kids := range [][]int{nil, {0}, {0, 1}, {0, 1, 2}} {
		for _, kind := range notKinds {
			p := impl.Program{Nodes: []impl.Node{{Kind: impl.NdNum, Num: 7}, {Kind: impl.NdNum, Num: 8}, {Kind: impl.NdNum, Num: 9}, {Kind: kind, Num: 1, Name: "x", Kids: kids}}}
			valueIs(t, p, 3, e, outcome{0, impl.FaultRange})
		}
		for _, kind := range nodeKinds {
			if kind.as != 'v' {
				p := impl.Program{Nodes: []impl.Node{{Kind: impl.NdNum, Num: 7}, {Kind: impl.NdNum, Num: 8}, {Kind: impl.NdNum, Num: 9}, plainNode(kind.kind, kids...)}}
				valueIs(t, p, 3, e, outcome{0, impl.FaultRange})
			}
		}
	}
}

// Of a node that has no depth nothing is told, even if what is wrong is elsewhere ahead of it; what is behind it doesn't count.
func TestNodesWithoutADepth(t *testing.T) {
	number := impl.Node{Kind: impl.NdNum, Num: 7}
	for _, kids := range [][]int{{-1}, {0}, {1}, {5}, {1 << 40}} {
		p := impl.Program{Nodes: []impl.Node{{Kind: impl.NdNot, Kids: kids}, number}}
		valueIs(t, p, 0, impl.Env{}, outcome{0, impl.FaultRange})
		valueIs(t, p, 1, impl.Env{}, outcome{0, impl.FaultRange})
		p = impl.Program{Nodes: []impl.Node{number, {Kind: impl.NdNeg, Kids: []int{0}}, {Kind: impl.NdNot, Kids: []int{kids[0] + 2}}, number}}
		valueIs(t, p, 0, impl.Env{}, outcome{7, 0})
		valueIs(t, p, 1, impl.Env{}, outcome{-7, 0})
	}
	deep := chain(11)
	deep.Nodes = append(deep.Nodes, number)
	valueIs(t, deep, 9, impl.Env{}, outcome{1, 0})
	valueIs(t, deep, 10, impl.Env{}, outcome{0, impl.FaultRange})
	valueIs(t, deep, 11, impl.Env{}, outcome{0, impl.FaultRange})
	// A kid too many counts for the depth.
	valueIs(t, impl.Program{Nodes: []impl.Node{number, {Kind: impl.NdNum, Num: 3, Kids: []int{2}}}}, 1, impl.Env{}, outcome{0, impl.FaultRange})
}

// A part that isn't there, or is no value, is FaultRange where it stands.
func TestPartsThatAreNoValues(t *testing.T) {
	nodes := []impl.Node{
		{Kind: impl.NdNum, Num: 7}, {Kind: impl.NdNum}, {Kind: impl.NdSkip}, {Kind: impl.NdBlock, Kids: []int{2}},
		{Kind: impl.NdCalc, Num: impl.OpDiv, Kids: []int{0, 1}}, {Kind: 0}, {Kind: impl.NdSet, Name: "x", Kids: []int{0}},
	}
	place := len(nodes)
	asks := func(node impl.Node, want outcome) {
		t.Helper()
		valueIs(t, impl.Program{Nodes: append(slices.Clone(nodes), node)}, place, impl.Env{}, want)
	}
	far, zero := outcome{0, impl.FaultRange}, outcome{0, impl.FaultZero}
	for _, wrong := range []int{2, 3, 5, 6} {
		asks(impl.Node{Kind: impl.NdNot, Kids: []int{wrong}}, far)
		asks(impl.Node{Kind: impl.NdNeg, Kids: []int{wrong}}, far)
		for _, op := range operations {
			asks(impl.Node{Kind: impl.NdCalc, Num: op, Kids: []int{wrong, 0}}, far)
			asks(impl.Node{Kind: impl.NdCalc, Num: op, Kids: []int{0, wrong}}, far)
			asks(impl.Node{Kind: impl.NdCalc, Num: op, Kids: []int{1, wrong}}, far)
			asks(impl.Node{Kind: impl.NdCalc, Num: op, Kids: []int{wrong, 4}}, far)
			asks(impl.Node{Kind: impl.NdCalc, Num: op, Kids: []int{4, wrong}}, zero)
		}
	}
	for _, op := range operations {
		asks(impl.Node{Kind: impl.NdCalc, Num: op}, far)
		asks(impl.Node{Kind: impl.NdCalc, Num: op, Kids: []int{0}}, far)
		asks(impl.Node{Kind: impl.NdCalc, Num: op, Kids: []int{4}}, zero)
	}
	asks(impl.Node{Kind: impl.NdNot}, far)
	asks(impl.Node{Kind: impl.NdNeg}, far)
}

// Whether a node is right is not asked: what it needs is taken from it as it stands.
func TestValuesOfNodesThatAreNotRight(t *testing.T) {
	number := func(n int) impl.Node { return impl.Node{Kind: impl.NdNum, Num: n} }
	asks := func(want outcome, nodes ...impl.Node) {
		t.Helper()
		valueIs(t, impl.Program{Nodes: nodes}, len(nodes)-1, envOf("v", 5), want)
	}
	far := outcome{0, impl.FaultRange}
	for _, op := range notOperations {
		asks(far, number(3), number(4), impl.Node{Kind: impl.NdCalc, Num: op, Kids: []int{0, 1}})
	}
	asks(outcome{-3, 0}, number(-3))
	asks(outcome{3, 0}, number(-3), impl.Node{Kind: impl.NdNeg, Kids: []int{0}})
	for _, n := range notValues {
		asks(outcome{n, 0}, number(n))
		asks(far, number(n), impl.Node{Kind: impl.NdNeg, Kids: []int{0}})
		asks(outcome{0, 0}, number(n), impl.Node{Kind: impl.NdNot, Kids: []int{0}})
		for _, op := range operations {
			asks(far, number(n), number(1), impl.Node{Kind: impl.NdCalc, Num: op, Kids: []int{0, 1}})
			asks(far, number(n), number(1), impl.Node{Kind: impl.NdCalc, Num: op, Kids: []int{1, 0}})
		}
	}
	asks(outcome{6, 0}, number(3), impl.Node{Kind: impl.NdCalc, Num: impl.OpAdd, Kids: []int{0, 0}})
	asks(outcome{7, 0}, number(3), number(4), impl.Node{Kind: impl.NdSkip}, impl.Node{Kind: impl.NdCalc, Num: impl.OpAdd, Name: "v", More: "m", To: "t", Kids: []int{0, 1, 2}})
	asks(outcome{-3, 0}, number(3), number(4), impl.Node{Kind: impl.NdNeg, Num: 8, Name: "v", Kids: []int{0, 1}})
	asks(outcome{0, 0}, number(3), impl.Node{Kind: impl.NdSkip}, impl.Node{Kind: impl.NdNot, Num: 8, Kids: []int{0, 1}})
	asks(outcome{9, 0}, number(3), impl.Node{Kind: impl.NdNum, Num: 9, Name: "v", Kids: []int{0}})
	asks(outcome{5, 0}, number(3), impl.Node{Kind: impl.NdVar, Num: 9, Name: "v", More: "w", Kids: []int{0}})
}

func TestValuesLeaveAllAsItWas(t *testing.T) {
	for _, fresh := range append(askedPrograms(t), readFrom(t, everyKind), largest(), chain(13), impl.Program{}) {
		p := roomy(fresh)
		for _, was := range allEnvs() {
			e := envWithRoom(was)
			for k := -1; k <= len(p.Nodes); k++ {
				n, fault := impl.ValueOf(p, k, e)
				valueIs(t, p, k, e, outcome{n, fault})
			}
			envIsLeft(t, "ValueOf", e, was)
		}
		if told(p) != told(fresh) || !roomIsLeft(p) {
			t.Errorf("a program was changed: %.2000s", told(p))
		}
	}
}

func TestValuesInLongPrograms(t *testing.T) {
	g := grower{}
	for range 200000 {
		g.number(1)
	}
	last := g.number(1)
	for range impl.MaxDeep - 1 {
		last = g.calc(impl.OpAdd, last, last)
	}
	g.is(t, impl.Env{Names: strings.Split(strings.Repeat("a ", 100000), " "), Vals: nil}, last)
}
