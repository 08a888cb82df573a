package tests

import (
	"fmt"
	"math"
	"slices"
	"strings"
	"testing"

	"loop.example/g00290/impl"
)

// threadOf is a thread without a fault, whose Todo is this, the last one on top.
func threadOf(e impl.Env, todo ...int) impl.Thread { return impl.Thread{Todo: todo, Env: e} }

func withFault(th impl.Thread, fault int) impl.Thread {
	th.Fault = fault
	return th
}

func threadTold(th impl.Thread) string {
	return fmt.Sprintf("%v with %s, fault %d", th.Todo, envTold(th.Env), th.Fault)
}

func sameThread(a, b impl.Thread) bool {
	return slices.Equal(a.Todo, b.Todo) && sameEnv(a.Env, b.Env) && a.Fault == b.Fault
}

func threadIs(t *testing.T, what string, got, want impl.Thread) {
	t.Helper()
	if !sameThread(got, want) {
		t.Errorf("%s: %.2000s; want %.2000s", what, threadTold(got), threadTold(want))
	}
}

func stateIs(t *testing.T, p impl.Program, th impl.Thread, want int) {
	t.Helper()
	if got := impl.StateOf(p, th); got != want {
		t.Errorf("StateOf %.2000s in %.2000s = %d, want %d", threadTold(th), told(p), got, want)
	}
}

func stepsTo(t *testing.T, p impl.Program, th, want impl.Thread) {
	t.Helper()
	if got := impl.StepThread(p, th); !sameThread(got, want) {
		t.Errorf("StepThread of %.1000s in %.2000s: %.2000s; want %.2000s", threadTold(th), told(p), threadTold(got), threadTold(want))
	}
}

func runsTo(t *testing.T, p impl.Program, th impl.Thread, fuel int, want impl.Thread, wantEnd bool) {
	t.Helper()
	if got, end := impl.RunThread(p, th, fuel); !sameThread(got, want) || end != wantEnd {
		t.Errorf("RunThread of %.1000s by %d: %.2000s, %v; want %.2000s, %v", threadTold(th), fuel, threadTold(got), end, threadTold(want), wantEnd)
	}
}

func valueAtIs(t *testing.T, p impl.Program, th impl.Thread, want outcome) {
	t.Helper()
	if n, fault := impl.ValueAt(p, th); n != want.n || fault != want.fault {
		t.Errorf("ValueAt %.1000s in %.2000s = %d, %d; want %d, %d", threadTold(th), told(p), n, fault, want.n, want.fault)
	}
}

// oneOf is a program with this statement alone in its body, and the place of the statement.
func oneOf(t *testing.T, statement string) (impl.Program, int) {
	t.Helper()
	p := readFrom(t, inBlock(statement))
	return p, len(p.Nodes) - 2
}

// bodyOf is a program of these statements, and a thread at the beginning of it.
func bodyOf(t *testing.T, names, statements string) (impl.Program, impl.Thread) {
	t.Helper()
	p := readFrom(t, inBlock(statements))
	return p, impl.ThreadNew(p, p.Processes[0].Body, strings.Fields(names))
}

// theActs are statements that no step does.
var theActs = []string{"call m . e ( 5 )", "call m . e ( 5 ) to v", "print 5", "read v", "delay q", "continue q"}

func TestThreadConstants(t *testing.T) {
	if [...]int{impl.StRun, impl.StAct, impl.StDone, impl.StFault, impl.MaxTodo} != [...]int{0, 1, 2, 3, 200} {
		t.Error("a constant is not the document's")
	}
}

func TestNewThreads(t *testing.T) {
	p := readFrom(t, everyKind)
	body := p.Processes[0].Body
	threadIs(t, "without names", impl.ThreadNew(p, body, nil), threadOf(impl.Env{}, body))
	threadIs(t, "without names", impl.ThreadNew(p, body, []string{}), threadOf(impl.Env{}, body))
	threadIs(t, "with one", impl.ThreadNew(p, body, []string{"r"}), threadOf(envOf("r", 0), body))
	threadIs(t, "with some", impl.ThreadNew(p, body, []string{"w", "result", "a"}), threadOf(envOf("w result a", 0, 0, 0), body))
	for _, size := range []int{8, 9, 300} {
		threadIs(t, "with many", impl.ThreadNew(p, body, unlikeNames(size)), threadOf(impl.Env{Names: unlikeNames(size), Vals: make([]int, size)}, body))
	}
	stateIs(t, p, impl.ThreadNew(p, body, nil), impl.StRun)
}

// What the body is and whether the names are right is not asked.
func TestNewThreadsOfAnything(t *testing.T) {
	p := readFrom(t, everyKind)
	for k := range p.Nodes {
		threadIs(t, "of a node", impl.ThreadNew(p, k, []string{"v"}), threadOf(envOf("v", 0), k))
	}
	for _, k := range placesBeyond(len(p.Nodes)) {
		th := threadOf(envOf("v", 0), k)
		threadIs(t, "of no node", impl.ThreadNew(p, k, []string{"v"}), th)
		threadIs(t, "of no node", impl.ThreadNew(impl.Program{}, k, []string{"v"}), th)
		stepsTo(t, p, th, withFault(th, impl.FaultWord))
	}
	threadIs(t, "of names twice", impl.ThreadNew(p, 1, []string{"v", "w", "v"}), threadOf(envOf("v w v", 0, 0, 0), 1))
	for _, name := range append([]string{""}, notNames...) {
		threadIs(t, "of a wrong name", impl.ThreadNew(p, 1, []string{name, "v"}), threadOf(impl.Env{Names: []string{name, "v"}, Vals: []int{0, 0}}, 1))
	}
}

func TestStatesOfEachStatement(t *testing.T) {
	for statement, want := range map[string]int{
		"v := 1": impl.StRun, "v := 1 / 0": impl.StRun, "skip": impl.StRun, "while 0 do begin skip end": impl.StRun, "while 1 do begin print 1 end": impl.StRun,
		"if 1 then begin print 1 end": impl.StRun, "if 0 then begin print 1 end else begin read v end": impl.StRun,
		"print 1": impl.StAct, "print 1 / 0": impl.StAct, "read v": impl.StAct, "delay q": impl.StAct, "continue q": impl.StAct,
		"call m . e ( 1 )": impl.StAct, "call m . e ( 1 ) to v": impl.StAct,
	} {
		p, k := oneOf(t, statement)
		for _, e := range []impl.Env{{}, envOf("v", 3)} {
			stateIs(t, p, threadOf(e, k), want)
			stateIs(t, p, threadOf(e, k+1), impl.StRun)
			stateIs(t, p, threadOf(e, k+1, k+1, k), want)
			stateIs(t, p, threadOf(e, k, k, k+1), impl.StRun)
			stateIs(t, p, threadOf(e), impl.StDone)
			for _, fault := range []int{impl.FaultRange, impl.FaultZero, impl.FaultQueue, impl.FaultWord, -1, 5, 77, math.MinInt, math.MaxInt} {
				stateIs(t, p, withFault(threadOf(e, k), fault), impl.StFault)
				stateIs(t, p, withFault(threadOf(e), fault), impl.StFault)
			}
		}
	}
}

// What comes is told by its Kind alone; what is no node, and a value, are StRun.
func TestStatesOfWhatIsNotRight(t *testing.T) {
	for _, kind := range nodeKinds {
		want := impl.StRun
		if slices.Contains([]int{impl.NdCall, impl.NdPrint, impl.NdRead, impl.NdDelay, impl.NdCont}, kind.kind) {
			want = impl.StAct
		}
		for _, kids := range [][]int{nil, {0}, {-1}, {7, 7}, {0, 0, 0, 0}} {
			p := impl.Program{Nodes: []impl.Node{{Kind: kind.kind, Num: 3, Name: "End", More: "?", To: "?", Kids: kids}}}
			stateIs(t, p, threadOf(impl.Env{}, 0), want)
		}
	}
	for _, kind := range notKinds {
		stateIs(t, impl.Program{Nodes: []impl.Node{{Kind: kind}}}, threadOf(impl.Env{}, 0), impl.StRun)
	}
	p, k := oneOf(t, "print 1")
	for _, place := range placesBeyond(len(p.Nodes)) {
		stateIs(t, p, threadOf(impl.Env{}, place), impl.StRun)
		stateIs(t, p, threadOf(impl.Env{}, k, place), impl.StRun)
		stateIs(t, p, threadOf(impl.Env{}, place, k), impl.StAct)
	}
	stateIs(t, impl.Program{}, threadOf(impl.Env{}, 0), impl.StRun)
	stateIs(t, impl.Program{}, impl.Thread{}, impl.StDone)
}

func TestAStepPutsAValue(t *testing.T) {
	e := envOf("v w", 5, -3)
	for statement, want := range map[string]impl.Env{
		"v := 1":              envOf("v w", 1, -3),
		"w := 1":              envOf("v w", 5, 1),
		"v := v":              e,
		"v := w":              envOf("v w", -3, -3),
		"v := v + w * 2":      envOf("v w", -1, -3),
		"w := not v":          envOf("v w", 5, 0),
		"w := - v":            envOf("v w", 5, -5),
		"v := 999999 + 1":     envOf("v w", impl.MaxVal, -3),
		"v := none":           envOf("v w", 0, -3),
		"none := 7":           e,
		"result := 7":         e,
		"vw := 7":             e,
		"none := 1000 * 1000": e,
	} {
		p, k := oneOf(t, statement)
		stepsTo(t, p, threadOf(e, k), threadOf(want))
		stepsTo(t, p, threadOf(e, 8, -5, k, k), threadOf(want, 8, -5, k))
		stepsTo(t, p, threadOf(impl.Env{}, k), threadOf(impl.Env{}))
	}
	p, k := oneOf(t, "v := v + 1")
	stepsTo(t, p, threadOf(envOf("w v v", 1, 2, 3), k), threadOf(envOf("w v v", 1, 3, 3)))
	stepsTo(t, p, threadOf(envOf("w v", 1), k), threadOf(envOf("w v", 1)))
	stepsTo(t, p, threadOf(envOf("v", 1, 2), k), threadOf(envOf("v", 2, 2)))
	stepsTo(t, p, threadOf(envOf("v w", 1, 1<<40), k), threadOf(envOf("v w", 2, 1<<40)))
}

// A value that comes from a node or a Val that is not right, and has no fault, is not put when it is none.
func TestAStepPutsNoWrongValue(t *testing.T) {
	for _, n := range notValues {
		p, k := oneOf(t, "v := w")
		stepsTo(t, p, threadOf(envOf("v w", 5, n), 3, k), threadOf(envOf("v w", 5, n), 3))
		p = impl.Program{Nodes: []impl.Node{{Kind: impl.NdNum, Num: n}, {Kind: impl.NdSet, Name: "v", Kids: []int{0}}}}
		stepsTo(t, p, threadOf(envOf("v", 5), 3, 1), threadOf(envOf("v", 5), 3))
	}
}

func TestAStepOfAnIf(t *testing.T) {
	values := map[string]bool{"0": false, "1": true, "2": true, "- 1": true, "v": true, "w": false, "none": false, "not v": false, "not w": true, "v - 5": false, "v < 5 or v = 5": true, "- v": true, "999999": true}
	e := envOf("v w", 5, 0)
	for value, holds := range values {
		for _, otherwise := range []string{"", " else begin v := 2 ; skip end"} {
			p, k := oneOf(t, "if "+value+" then begin v := 1 end"+otherwise)
			kids := p.Nodes[k].Kids
			want := []int{}
			if holds {
				want = []int{kids[1]}
			} else if otherwise != "" {
				want = []int{kids[2]}
			}
			stepsTo(t, p, threadOf(e, k), threadOf(e, want...))
			stepsTo(t, p, threadOf(e, 0, k+1, k), threadOf(e, append([]int{0, k + 1}, want...)...))
		}
	}
}

func TestAStepOfAWhile(t *testing.T) {
	for value, goesOn := range map[string]bool{"0": false, "1": true, "- 1": true, "v": true, "w": false, "none": false, "v - 5": false, "not w": true, "0 - v": true, "v < 5": false} {
		e := envOf("v w", 5, 0)
		p, k := oneOf(t, "while "+value+" do begin v := v - 1 ; print v end")
		want := []int{}
		if goesOn {
			want = []int{k, p.Nodes[k].Kids[1]}
		}
		stepsTo(t, p, threadOf(e, k), threadOf(e, want...))
		stepsTo(t, p, threadOf(e, k, -7, k), threadOf(e, append([]int{k, -7}, want...)...))
	}
}

func TestAStepOfABlock(t *testing.T) {
	for size := 1; size <= 12; size++ {
		p := readFrom(t, inBlock(strings.Join(slices.Repeat([]string{"print 1", "v := 1", "skip"}, 4)[:size], " ; ")))
		body := p.Processes[0].Body
		want := slices.Clone(p.Nodes[body].Kids)
		slices.Reverse(want)
		if len(want) != size {
			t.Fatalf("%d statements, want %d", len(want), size)
		}
		e := envOf("v", 9)
		stepsTo(t, p, threadOf(e, body), threadOf(e, want...))
		stepsTo(t, p, threadOf(e, 1, 0, body), threadOf(e, append([]int{1, 0}, want...)...))
	}
}

// Kids are put as they stand, whatever their places.
func TestAStepOfABlockInAnyOrder(t *testing.T) {
	skip := impl.Node{Kind: impl.NdSkip}
	p := impl.Program{Nodes: []impl.Node{skip, skip, skip, skip, {Kind: impl.NdBlock, Kids: []int{2, 0, 3, 1}}}}
	stepsTo(t, p, threadOf(impl.Env{}, 4), threadOf(impl.Env{}, 1, 3, 0, 2))
}

func TestAStepOfASkip(t *testing.T) {
	p, k := oneOf(t, "skip")
	for _, e := range allEnvs() {
		stepsTo(t, p, threadOf(e, k), threadOf(e))
		stepsTo(t, p, threadOf(e, k+1, k, k), threadOf(e, k+1, k))
	}
}

// What is not StRun is left as it is.
func TestNoStep(t *testing.T) {
	e := envOf("v q", 3, 4)
	for _, statement := range append([]string{"print 1 / 0", "skip", "v := 1"}, theActs...) {
		p, k := oneOf(t, statement)
		threads := []impl.Thread{{}, threadOf(e), {Fault: 3}, withFault(threadOf(e, k), impl.FaultQueue), withFault(threadOf(e, k+1), -4), withFault(threadOf(e, k, 99), 1)}
		if slices.Contains(theActs, statement) {
			threads = append(threads, threadOf(e, k), threadOf(e, -1, k), threadOf(e, slices.Repeat([]int{k}, 3*impl.MaxTodo)...))
		}
		for _, th := range threads {
			stepsTo(t, p, th, th)
			for _, fuel := range []int{math.MinInt, -1, 0, 1, 2, 2000, 2001, math.MaxInt} {
				runsTo(t, p, th, fuel, th, true)
			}
		}
	}
}

// An act is told by its Kind, so that one that is not right is left as it is, too.
func TestActsThatAreNotRight(t *testing.T) {
	for _, kind := range []int{impl.NdCall, impl.NdPrint, impl.NdRead, impl.NdDelay, impl.NdCont} {
		for _, kids := range [][]int{nil, {0}, {1}, {0, 0, 0}, {-1}, {9}} {
			p := impl.Program{Nodes: []impl.Node{{Kind: impl.NdNum}, {Kind: kind, Num: 3, Name: "End", Kids: kids}}}
			if impl.NodeOk(p, 1) {
				t.Fatalf("%+v is right", p.Nodes[1])
			}
			th := threadOf(envOf("v", 3), 0, 1)
			stepsTo(t, p, th, th)
			runsTo(t, p, th, 10, th, true)
		}
	}
}

func TestAFaultOfAValue(t *testing.T) {
	e := envOf("v most", 5, impl.MaxVal)
	for value, fault := range map[string]int{
		"1 / 0": impl.FaultZero, "v % none": impl.FaultZero, "most + 1": impl.FaultRange, "1000 * 1001": impl.FaultRange, "1 or 1 / 0": impl.FaultZero, "0 and most * 2": impl.FaultRange,
	} {
		for _, statement := range []string{
			"v := %s", "none := %s", "if %s then begin skip end", "if %s then begin skip end else begin v := 1 end", "while %s do begin v := 1 end",
		} {
			p, k := oneOf(t, fmt.Sprintf(statement, value))
			for _, todo := range [][]int{{k}, {0, k}, {-1, k + 1, k, k}, slices.Repeat([]int{k}, 200), slices.Repeat([]int{k}, 201), slices.Repeat([]int{k}, 500)} {
				th := threadOf(e, todo...)
				stepsTo(t, p, th, withFault(th, fault))
				runsTo(t, p, th, 1, withFault(th, fault), true)
				runsTo(t, p, th, 2000, withFault(th, fault), true)
				runsTo(t, p, th, 0, th, false)
			}
		}
	}
}

// FaultRange is the fault of a value that has no depth, or in which something is that is none.
func TestAFaultOfAValueThatIsNotRight(t *testing.T) {
	e := envOf("x", 5)
	for _, wrong := range []impl.Node{{Kind: impl.NdNeg}, {Kind: impl.NdNot, Kids: []int{1}}, {Kind: impl.NdCalc, Num: impl.OpAdd, Kids: []int{0, -1}}, {Kind: impl.NdCalc, Num: 12, Kids: []int{0, 0}}, {Kind: impl.NdNeg, Kids: []int{77}}} {
		p := impl.Program{Nodes: []impl.Node{
			{Kind: impl.NdNum, Num: 1}, {Kind: impl.NdSkip}, {Kind: impl.NdBlock, Kids: []int{1}}, wrong,
			plainNode(impl.NdSet, 3), plainNode(impl.NdIf, 3, 2), plainNode(impl.NdWhile, 3, 2),
		}}
		for k := 4; k < 7; k++ {
			stepsTo(t, p, threadOf(e, 1, k), withFault(threadOf(e, 1, k), impl.FaultRange))
		}
	}
	for deep := 9; deep < 13; deep++ {
		p := chain(deep)
		p.Nodes = append(p.Nodes, plainNode(impl.NdSet, deep-1))
		want := threadOf(envOf("x", truth(deep%2 == 0)))
		if deep > impl.MaxDeep {
			want = withFault(threadOf(e, deep), impl.FaultRange)
		}
		stepsTo(t, p, threadOf(e, deep), want)
	}
}

func TestStepsOfWhatIsNowhere(t *testing.T) {
	e := envOf("v", 3)
	p, k := oneOf(t, "skip")
	for _, place := range placesBeyond(len(p.Nodes)) {
		for _, todo := range [][]int{{place}, {k, place}, {place, place}, append(slices.Repeat([]int{k}, 400), place)} {
			th := threadOf(e, todo...)
			stepsTo(t, p, th, withFault(th, impl.FaultWord))
			stepsTo(t, impl.Program{}, th, withFault(th, impl.FaultWord))
			runsTo(t, p, th, 2000, withFault(th, impl.FaultWord), true)
			runsTo(t, p, th, 0, th, false)
		}
		stepsTo(t, p, threadOf(e, place, k), threadOf(e, place))
		runsTo(t, p, threadOf(e, place, k), 1, threadOf(e, place), false)
		runsTo(t, p, threadOf(e, place, k), 2, withFault(threadOf(e, place), impl.FaultWord), true)
	}
}

func TestStepsOfValues(t *testing.T) {
	e := envOf("r", 3)
	p := readFrom(t, everyKind)
	values := 0
	for k, node := range p.Nodes {
		if node.Kind <= impl.NdNeg {
			values++
			stepsTo(t, p, threadOf(e, 0, k), withFault(threadOf(e, 0, k), impl.FaultWord))
			runsTo(t, p, threadOf(e, k), 5, withFault(threadOf(e, k), impl.FaultWord), true)
		}
	}
	if values < 5 {
		t.Errorf("%d values", values)
	}
	// That a value has a fault of its own is not asked, where it is what comes.
	p, k := oneOf(t, "print 1 / 0")
	stepsTo(t, p, threadOf(e, k-1), withFault(threadOf(e, k-1), impl.FaultWord))
}

// A node that is not right is FaultWord, whatever its value is.
func TestStepsOfNodesThatAreNotRight(t *testing.T) {
	e := envOf("x", 3)
	nodes := []impl.Node{
		{Kind: impl.NdNum, Num: 1}, {Kind: impl.NdNum}, {Kind: impl.NdCalc, Num: impl.OpDiv, Kids: []int{0, 1}},
		{Kind: impl.NdSkip}, {Kind: impl.NdBlock, Kids: []int{3}}, {Kind: 0},
	}
	far := len(nodes)
	wrong := []impl.Node{
		{Kind: impl.NdBlock}, {Kind: impl.NdBlock, Kids: []int{3, 3}}, {Kind: impl.NdBlock, Kids: []int{4}}, {Kind: impl.NdBlock, Kids: []int{0}}, {Kind: impl.NdBlock, Kids: []int{5}},
		{Kind: impl.NdBlock, Kids: []int{-1}}, {Kind: impl.NdBlock, Kids: []int{far}}, {Kind: impl.NdBlock, Kids: []int{far + 1}}, {Kind: impl.NdBlock, Name: "x", Kids: []int{3}}, {Kind: impl.NdBlock, Num: 1, Kids: []int{3}},
		{Kind: impl.NdSkip, Kids: []int{0}}, {Kind: impl.NdSkip, Num: 1}, {Kind: impl.NdSkip, Name: "x"},
		{Kind: impl.NdSet, Name: "x"}, {Kind: impl.NdSet, Name: "", Kids: []int{0}}, {Kind: impl.NdSet, Name: "end", Kids: []int{0}}, {Kind: impl.NdSet, Name: "x", Kids: []int{3}},
		{Kind: impl.NdSet, Name: "x", Kids: []int{0, 1}}, {Kind: impl.NdSet, Name: "x", Num: 1, Kids: []int{0}}, {Kind: impl.NdSet, Name: "x", To: "x", Kids: []int{0}}, {Kind: impl.NdSet, Name: "X", Kids: []int{2}}, {Kind: impl.NdSet, Name: "x", Kids: []int{2, 0}},
		{Kind: impl.NdIf, Kids: []int{0}}, {Kind: impl.NdIf, Kids: []int{0, 3}}, {Kind: impl.NdIf, Kids: []int{0, 4, 4}}, {Kind: impl.NdIf, Kids: []int{4, 4}}, {Kind: impl.NdIf, Kids: []int{0, 4, 3}}, {Kind: impl.NdIf, Name: "x", Kids: []int{2, 4}}, {Kind: impl.NdIf},
		{Kind: impl.NdWhile, Kids: []int{0}}, {Kind: impl.NdWhile, Kids: []int{0, 3}}, {Kind: impl.NdWhile, Kids: []int{1, 4, 4}}, {Kind: impl.NdWhile, Kids: []int{0, far}}, {Kind: impl.NdWhile, Num: 1, Kids: []int{2, 4}}, {Kind: impl.NdWhile},
	}
	for _, kind := range notKinds {
		wrong = append(wrong, impl.Node{Kind: kind}, impl.Node{Kind: kind, Kids: []int{0}}, impl.Node{Kind: kind, Kids: []int{2, 4}})
	}
	for _, node := range wrong {
		p := impl.Program{Nodes: append(slices.Clone(nodes), node, impl.Node{Kind: impl.NdSkip})}
		for _, todo := range [][]int{{far}, {3, far}, append(slices.Repeat([]int{far}, 300), far)} {
			th := threadOf(e, todo...)
			stepsTo(t, p, th, withFault(th, impl.FaultWord))
			runsTo(t, p, th, 3, withFault(th, impl.FaultWord), true)
		}
		stepsTo(t, p, threadOf(e, far, 3), threadOf(e, far))
	}
}

// upTo is a Todo of so many, of which this is the last; the others are nowhere, since nobody asks for them.
func upTo(size, last int) []int { return append(slices.Repeat([]int{-1}, size-1), last) }

func TestHowManyAreToBeDone(t *testing.T) {
	e := envOf("v", 5)
	for _, c := range []struct {
		statement string
		more      int
		env       impl.Env
	}{
		{"skip", -1, e},
		{"v := 7", -1, envOf("v", 7)},
		{"none := 7", -1, e},
		{"if 0 then begin skip end", -1, e},
		{"if 1 then begin skip end", 0, e},
		{"if 0 then begin skip end else begin skip end", 0, e},
		{"while 0 do begin skip end", -1, e},
		{"while 1 do begin skip end", 1, e},
	} {
		p, k := oneOf(t, c.statement)
		for size := 195; size < 206; size++ {
			got := impl.StepThread(p, threadOf(e, upTo(size, k)...))
			fault := 0
			if size+c.more > 200 {
				fault = impl.FaultWord
			}
			if len(got.Todo) != size+c.more || got.Fault != fault || !sameEnv(got.Env, c.env) {
				t.Errorf("%s with %d to be done: %d then, fault %d, %s; want fault %d", c.statement, size, len(got.Todo), got.Fault, envTold(got.Env), fault)
			}
		}
	}
	for count := 1; count <= 12; count++ {
		p := readFrom(t, inBlock("skip"+strings.Repeat(" ; skip", count-1)))
		for size := 185; size < 206; size++ {
			got := impl.StepThread(p, threadOf(e, upTo(size, p.Processes[0].Body)...))
			if want := size - 1 + count; len(got.Todo) != want || got.Fault != truth(want > 200)*impl.FaultWord {
				t.Errorf("a block of %d with %d to be done: %d then, fault %d", count, size, len(got.Todo), got.Fault)
			}
		}
	}
}

// What is done stays done, where there are too many to be done then.
func TestTooManyToBeDone(t *testing.T) {
	p, k := oneOf(t, "while v do begin skip end")
	body := p.Nodes[k].Kids[1]
	e := envOf("v", 5)
	stepsTo(t, p, threadOf(e, upTo(199, k)...), threadOf(e, append(upTo(199, k), body)...))
	full := threadOf(e, append(upTo(200, k), body)...)
	stepsTo(t, p, threadOf(e, upTo(200, k)...), withFault(full, impl.FaultWord))
	runsTo(t, p, threadOf(e, upTo(200, k)...), 2000, withFault(full, impl.FaultWord), true)
	p, k = oneOf(t, "v := 7")
	stepsTo(t, p, threadOf(e, slices.Repeat([]int{k}, 300)...), withFault(threadOf(envOf("v", 7), slices.Repeat([]int{k}, 299)...), impl.FaultWord))
	stepsTo(t, p, threadOf(e, slices.Repeat([]int{k}, 201)...), threadOf(envOf("v", 7), slices.Repeat([]int{k}, 200)...))
	runsTo(t, p, threadOf(e, slices.Repeat([]int{k}, 201)...), 500, threadOf(envOf("v", 7)), true)
	runsTo(t, p, threadOf(e, slices.Repeat([]int{k}, 202)...), 500, withFault(threadOf(envOf("v", 7), slices.Repeat([]int{k}, 201)...), impl.FaultWord), true)
}

// loopsWithin are so many loops, one within the other, of right nodes; the outermost one is the last node.
func loopsWithin(count int) impl.Program {
	g := grower{}
	value, inner := g.add(impl.Node{Kind: impl.NdNum, Num: 1}), g.add(impl.Node{Kind: impl.NdSkip})
	for range count {
		block := g.add(impl.Node{Kind: impl.NdBlock, Kids: []int{inner}})
		inner = g.add(impl.Node{Kind: impl.NdWhile, Kids: []int{value, block}})
	}
	return g.p
}

func TestManyLoopsWithinEachOther(t *testing.T) {
	for _, count := range []int{1, 5, 199, 200, 201, 300} {
		p := loopsWithin(count)
		got, end := impl.RunThread(p, impl.ThreadNew(p, len(p.Nodes)-1, nil), 2000)
		if isFault := count >= 200; isFault != end || isFault != (got.Fault == impl.FaultWord) || isFault != (len(got.Todo) == 201) {
			t.Errorf("%d loops: %d to be done, fault %d, %v", count, len(got.Todo), got.Fault, end)
		}
	}
}

func TestFuel(t *testing.T) {
	p, th := bodyOf(t, "v", "v := 1 ; v := v + 1 ; print v")
	kids := p.Nodes[th.Todo[0]].Kids
	first := threadOf(envOf("v", 0), kids[2], kids[1], kids[0])
	second := threadOf(envOf("v", 1), kids[2], kids[1])
	third := threadOf(envOf("v", 2), kids[2])
	for _, fuel := range []int{math.MinInt, -2000, -1, 0} {
		runsTo(t, p, th, fuel, th, false)
		runsTo(t, p, third, fuel, third, true)
	}
	runsTo(t, p, th, 1, first, false)
	runsTo(t, p, th, 2, second, false)
	for _, fuel := range []int{3, 4, 1999, 2000, 2001, 1 << 40, math.MaxInt} {
		runsTo(t, p, th, fuel, third, true)
	}
	threadIs(t, "Past", impl.Past(third), threadOf(envOf("v", 2)))
	stateIs(t, p, impl.Past(third), impl.StDone)
}

// Of a loop that has no end 2000 steps are done at most: one for the body, and three of each round.
func TestALoopWithoutAnEnd(t *testing.T) {
	p, th := bodyOf(t, "v", "while 1 do begin v := v + 1 end")
	loop := len(p.Nodes) - 2
	block := p.Nodes[loop].Kids[1]
	set := p.Nodes[block].Kids[0]
	runsTo(t, p, th, 1998, threadOf(envOf("v", 665), loop, set), false)
	runsTo(t, p, th, 1999, threadOf(envOf("v", 666), loop), false)
	for _, fuel := range []int{2000, 2001, 2002, 4000, 1 << 40, math.MaxInt} {
		runsTo(t, p, th, fuel, threadOf(envOf("v", 666), loop, block), false)
	}
	far, _ := impl.RunThread(p, th, 2000)
	runsTo(t, p, far, 2, threadOf(envOf("v", 667), loop), false)
	p, th = bodyOf(t, "v", "while not v do begin skip end ; print 1")
	for _, fuel := range []int{0, 1, 7, 2000, math.MaxInt} {
		if got, end := impl.RunThread(p, th, fuel); end || impl.StateOf(p, got) != impl.StRun {
			t.Errorf("an endless loop ends by %d: %s", fuel, threadTold(got))
		}
	}
}

// endsAfter is a body that is done after just so many steps, but for what stands behind.
func endsAfter(t *testing.T, steps int, behind string) (impl.Program, impl.Thread) {
	t.Helper()
	rounds, skips := (steps-3)/3, (steps-3)%3
	return bodyOf(t, "v", fmt.Sprintf("v := %d ; while v do begin v := v - 1 end", rounds)+strings.Repeat(" ; skip", skips)+behind)
}

func TestTheLastStep(t *testing.T) {
	for _, steps := range []int{3, 4, 5, 6, 100, 1998, 1999, 2000, 2001, 2002} {
		for _, behind := range []string{"", " ; print 1", " ; v := 1 / 0"} {
			p, th := endsAfter(t, steps, behind)
			needed, state := steps, impl.StDone
			switch behind {
			case " ; print 1":
				state = impl.StAct
			case " ; v := 1 / 0":
				needed, state = steps+1, impl.StFault
			}
			for _, fuel := range []int{steps - 1, steps, steps + 1, steps + 2, 2000, 2001, 5000} {
				want := fuel >= needed && needed <= 2000
				got, end := impl.RunThread(p, th, fuel)
				if end != want || (impl.StateOf(p, got) == state) != want || impl.StateOf(p, got) == impl.StRun == want {
					t.Errorf("%d steps%s by %d: %v, %s", steps, behind, fuel, end, threadTold(got))
				}
			}
		}
	}
}

func TestLoops(t *testing.T) {
	for statements, want := range map[string]impl.Env{
		"v := 3 ; while v do begin v := v - 1 ; w := w + 10 end":                                                     envOf("v w", 0, 30),
		"while 0 do begin v := 1 end ; w := 2":                                                                       envOf("v w", 0, 2),
		"while v do begin v := 1 end ; w := 2":                                                                       envOf("v w", 0, 2),
		"while w < 5 do begin w := w + 2 ; v := v - w end":                                                           envOf("v w", -12, 6),
		"v := - 3 ; while v do begin v := v + 1 ; w := w + 1 end":                                                    envOf("v w", 0, 3),
		"while v < 3 do begin while w < v * 2 do begin w := w + 1 end ; v := v + 1 end":                              envOf("v w", 3, 4),
		"if v then begin while 1 do begin skip end end else begin w := 4 end":                                        envOf("v w", 0, 4),
		"while v < 4 do begin if v % 2 then begin w := w + v end else begin w := w * 10 end ; v := v + 1 end ; skip": envOf("v w", 4, 13),
		"v := 1 ; w := 1 ; while v < 100 do begin v := v + w ; w := v - w end":                                       envOf("v w", 144, 89),
		"if 1 then begin if 0 then begin v := 1 end end ; w := 5":                                                    envOf("v w", 0, 5),
		"v := 5 ; none := 7 ; w := v + none":                                                                         envOf("v w", 5, 5),
	} {
		p, th := bodyOf(t, "v w", statements)
		runsTo(t, p, th, 2000, threadOf(want), true)
	}
}

func TestValuesOfWhatComes(t *testing.T) {
	e := envOf("v", 5)
	far, zero, word := outcome{0, impl.FaultRange}, outcome{0, impl.FaultZero}, outcome{0, impl.FaultWord}
	for statement, want := range map[string]outcome{
		"print v * 2": {10, 0}, "print none": {0, 0}, "print 1 / 0": zero, "print 1000 * 1001": far, "call m . e ( v + 1 )": {6, 0}, "call m . e ( - v ) to v": {-5, 0}, "call m . e ( v % 0 )": zero,
		"v := 7": {7, 0}, "v := 7 % 0": zero, "if v < 6 then begin skip end": {1, 0}, "while v - 5 do begin skip end": {0, 0}, "while v do begin skip end": {5, 0},
		"read v": word, "delay q": word, "continue q": word, "skip": word,
	} {
		p, k := oneOf(t, statement)
		valueAtIs(t, p, threadOf(e, k), want)
		valueAtIs(t, p, threadOf(e, -1, k+1, k), want)
		// A thread with a Fault is asked like any other.
		valueAtIs(t, p, withFault(threadOf(e, k), impl.FaultQueue), want)
		// The first of a block is a statement.
		valueAtIs(t, p, threadOf(e, k, k+1), far)
	}
}

func TestValuesOfWhatComesElsewhere(t *testing.T) {
	e := envOf("v", 5)
	word := outcome{0, impl.FaultWord}
	p, k := oneOf(t, "print v + 1")
	valueAtIs(t, p, threadOf(e), word)
	valueAtIs(t, p, impl.Thread{}, word)
	valueAtIs(t, p, withFault(threadOf(e), impl.FaultZero), word)
	valueAtIs(t, impl.Program{}, threadOf(e, 0), word)
	for _, place := range placesBeyond(len(p.Nodes)) {
		valueAtIs(t, p, threadOf(e, place), word)
		valueAtIs(t, p, threadOf(e, k, place), word)
		valueAtIs(t, p, threadOf(e, place, k), outcome{6, 0})
	}
	// Of v + 1: what comes may be a value itself.
	valueAtIs(t, p, threadOf(e, k-1), outcome{5, 0})
	valueAtIs(t, p, threadOf(e, k-2), word)
	for _, kind := range append([]int{impl.NdSkip, impl.NdRead, impl.NdNum, impl.NdPrint, impl.NdBlock}, notKinds...) {
		nodes := []impl.Node{{Kind: impl.NdNum, Num: 8}, {Kind: impl.NdSkip}}
		for _, c := range []struct {
			kids []int
			want outcome
		}{{nil, word}, {[]int{}, word}, {[]int{0}, outcome{8, 0}}, {[]int{0, 1, -1}, outcome{8, 0}}, {[]int{1, 0}, outcome{0, impl.FaultRange}}, {[]int{-1}, outcome{0, impl.FaultRange}}, {[]int{2}, outcome{0, impl.FaultRange}}, {[]int{77, 0}, outcome{0, impl.FaultRange}}} {
			p := impl.Program{Nodes: append(slices.Clone(nodes), impl.Node{Kind: kind, Kids: c.kids})}
			valueAtIs(t, p, threadOf(e, 2), c.want)
		}
	}
}

func TestWhatComesIsGone(t *testing.T) {
	for _, e := range allEnvs() {
		for _, fault := range []int{0, impl.FaultRange, impl.FaultWord, -9, 77} {
			for _, todo := range [][]int{{4}, {-1, 4}, {4, math.MinInt}, {4, 4, 4}, {0, 1, 2, 3}, upTo(200, 7), upTo(500, 7)} {
				threadIs(t, "Past", impl.Past(impl.Thread{Todo: todo, Env: e, Fault: fault}), impl.Thread{Todo: todo[:len(todo)-1], Env: e, Fault: fault})
			}
			empty := impl.Thread{Env: e, Fault: fault}
			threadIs(t, "Past of nothing", impl.Past(empty), empty)
			empty.Todo = []int{}
			threadIs(t, "Past of nothing", impl.Past(empty), empty)
		}
	}
	threadIs(t, "Past of a zero thread", impl.Past(impl.Thread{}), impl.Thread{})
}

// After each act the thread goes on with what stands behind it.
func TestActsOneAfterTheOther(t *testing.T) {
	p, th := bodyOf(t, "v", strings.Join(theActs, " ; v := v + 1 ; "))
	for i := range theActs {
		at, end := impl.RunThread(p, th, 10)
		if !end || impl.StateOf(p, at) != impl.StAct || impl.GetIn(at.Env, "v") != i || len(at.Todo) != 2*(len(theActs)-i)-1 {
			t.Fatalf("act %d: %v, %s", i, end, threadTold(at))
		}
		stepsTo(t, p, at, at)
		th = impl.Past(at)
	}
	runsTo(t, p, th, 10, threadOf(envOf("v", len(theActs)-1)), true)
}
