package tests

import (
	"fmt"
	"math"
	"slices"
	"strings"
	"testing"

	"loop.example/g00290/impl"
)

var eventWords = []string{"?", "enter", "leave", "delay", "cont", "print", "read", "done", "fault"}

// eventsTold are events as words: the process, what it does, and its number.
func eventsTold(list []impl.Event) string {
	lines := []string{}
	for _, e := range list {
		lines = append(lines, fmt.Sprint(e.Process, " ", eventWords[e.Kind], " ", e.Num))
	}
	return strings.Join(lines, " ; ")
}

func modelTold(m impl.Model) string { return fmt.Sprintf("%+v", m) }

func eventsAre(t *testing.T, m impl.Model, want string) {
	t.Helper()
	if got := eventsTold(m.Events); got != want {
		t.Errorf("the events are %q, want %q", got, want)
	}
}

func ableAre(t *testing.T, m impl.Model, want ...int) {
	t.Helper()
	if got := impl.Able(m); !slices.Equal(got, want) {
		t.Errorf("%v are able, want %v", got, want)
	}
}

func verdictIs(t *testing.T, m impl.Model, want int) {
	t.Helper()
	if got := impl.VerdictOf(m); got != want {
		t.Errorf("the verdict behind %q is %d, want %d", eventsTold(m.Events), got, want)
	}
}

func modelOk(t *testing.T, what string, m impl.Model, want bool) {
	t.Helper()
	if got := impl.ModelOk(m); got != want {
		t.Errorf("ModelOk with %s is %v: %.2000s", what, got, modelTold(m))
	}
}

func modelIs(t *testing.T, what string, got, want impl.Model) {
	t.Helper()
	if modelTold(got) != modelTold(want) {
		t.Errorf("%s is\n%.3000s, want\n%.3000s", what, modelTold(got), modelTold(want))
	}
}

// modelFrom is the model of a text at its beginning.
func modelFrom(t *testing.T, text string, input ...int) impl.Model {
	t.Helper()
	m, ok := impl.ModelNew(readFrom(t, text), input)
	if !ok {
		t.Fatalf("ModelNew of %q with %v is false", text, input)
	}
	modelOk(t, "what is new", m, true)
	return m
}

// gone is the model behind these processes, each of which goes on.
func gone(t *testing.T, m impl.Model, processes ...int) impl.Model {
	t.Helper()
	for _, process := range processes {
		next, ok := impl.ModelGo(m, process)
		if !ok || len(next.Events) != len(m.Events)+1 {
			t.Fatalf("process %d doesn't go on behind %q", process, eventsTold(m.Events))
		}
		m = next
	}
	return m
}

// stays asks that these processes don't go on, and that the model is answered as it is.
func stays(t *testing.T, m impl.Model, processes ...int) {
	t.Helper()
	for _, process := range processes {
		next, ok := impl.ModelGo(m, process)
		if ok {
			t.Errorf("process %d goes on behind %q", process, eventsTold(m.Events))
		}
		modelIs(t, "a model that stays", next, m)
	}
}

// goesTo asks for the whole model behind an event of a process: what it was, changed.
func goesTo(t *testing.T, m impl.Model, process int, change func(m *impl.Model)) impl.Model {
	t.Helper()
	want := deepCopy(m)
	change(&want)
	got := gone(t, m, process)
	modelIs(t, fmt.Sprintf("the model behind an event of %d", process), got, want)
	modelOk(t, "what a process came to", got, true)
	return got
}

// toldEvent puts an event behind those of a model.
func toldEvent(m *impl.Model, process, kind, num int) {
	m.Events = append(m.Events, impl.Event{Process: process, Kind: kind, Num: num})
}

// placeOfNth is the place of the nth node (from 0 on) of a kind.
func placeOfNth(t *testing.T, p impl.Program, kind, nth int) int {
	t.Helper()
	for k, node := range p.Nodes {
		if node.Kind == kind && nth == 0 {
			return k
		}
		nth -= truth(node.Kind == kind)
	}
	t.Fatalf("there are no so many nodes of kind %d", kind)
	return -1
}

func TestModelConstants(t *testing.T) {
	got := list(impl.EvEnter, impl.EvLeave, impl.EvDelay, impl.EvCont, impl.EvPrint, impl.EvRead, impl.EvDone, impl.EvFault, impl.VdOpen, impl.VdDone, impl.VdStuck, impl.VdFault)
	if want := list(1, 2, 3, 4, 5, 6, 7, 8, 0, 1, 2, 3); !slices.Equal(got, want) {
		t.Errorf("the constants are %v, want %v", got, want)
	}
}

// newActor is an actor at the beginning of a body.
func newActor(body int, vars string) impl.Actor {
	e := envOf(vars, make([]int, len(strings.Fields(vars)))...)
	return impl.Actor{Outer: threadOf(e, body), Monitor: -1, Entry: -1, Ready: true}
}

func TestNewModelOfOneProcess(t *testing.T) {
	p := readFrom(t, "process a ; begin print 1 end ; .")
	got, ok := impl.ModelNew(p, nil)
	if !ok {
		t.Fatal("a model of one process is refused")
	}
	modelIs(t, "a model of one process", got, impl.Model{Program: p, Actors: []impl.Actor{newActor(p.Processes[0].Body, "")}})
	verdictIs(t, got, impl.VdOpen)
	ableAre(t, got, 0)
}

const twoMonitors = "monitor m ; var u , v ; queue q , r ; entry e ( x ) begin skip end ; end ; monitor n ; queue q ; entry f ( y ) begin skip end ; entry g ( y ) begin skip end ; end ; "

func TestNewModelOfTwoProcesses(t *testing.T) {
	p := readFrom(t, twoMonitors+"process a uses n , m ; var c , d ; begin skip end ; process b ; var d ; begin skip end ; .")
	got, ok := impl.ModelNew(p, list(5, -6))
	if !ok {
		t.Fatal("a model of two processes is refused")
	}
	modelIs(t, "a model of two processes", got, impl.Model{
		Program: p,
		Actors:  []impl.Actor{newActor(p.Processes[0].Body, "c d"), newActor(p.Processes[1].Body, "d")},
		Gates:   []impl.Gate{gateOf(-1, nil, list(-1, -1)), gateOf(-1, nil, list(-1))},
		Vars:    []impl.Env{envOf("u v", 0, 0), {}},
		Input:   list(5, -6),
	})
	modelOk(t, "two processes", got, true)
	ableAre(t, got, 0, 1)
}

func TestNewModelOfFourProcesses(t *testing.T) {
	p := readFrom(t, twoMonitors+"monitor o ; var z ; entry h ( y ) begin skip end ; end ; "+
		"process a ; begin skip end ; process b uses m , n , o ; begin skip end ; process c ; var x , y , z ; begin skip end ; process d ; begin skip end ; .")
	got, ok := impl.ModelNew(p, nil)
	if !ok {
		t.Fatal("a model of four processes is refused")
	}
	bodies := []int{}
	for _, process := range p.Processes {
		bodies = append(bodies, process.Body)
	}
	modelIs(t, "a model of four processes", got, impl.Model{
		Program: p,
		Actors:  []impl.Actor{newActor(bodies[0], ""), newActor(bodies[1], ""), newActor(bodies[2], "x y z"), newActor(bodies[3], "")},
		Gates:   []impl.Gate{gateOf(-1, nil, list(-1, -1)), gateOf(-1, nil, list(-1)), gateOf(-1, nil, nil)},
		Vars:    []impl.Env{envOf("u v", 0, 0), {}, envOf("z", 0)},
	})
	ableAre(t, got, 0, 1, 2, 3)
}

// newIsRefused asks ModelNew and RunModel for the answer to what is wrong.
func newIsRefused(t *testing.T, what string, p impl.Program, input []int) {
	t.Helper()
	m, ok := impl.ModelNew(p, input)
	if ok {
		t.Errorf("ModelNew takes %s", what)
	}
	modelIs(t, "ModelNew of "+what, m, impl.Model{})
	runIsRefused(t, what, p, input, nil)
}

func runIsRefused(t *testing.T, what string, p impl.Program, input, picks []int) {
	t.Helper()
	m, ok := impl.RunModel(p, input, picks)
	if ok {
		t.Errorf("RunModel takes %s", what)
	}
	modelIs(t, "RunModel of "+what, m, impl.Model{})
}

// notGranted are programs of which there is no model.
func notGranted(t *testing.T) []impl.Program {
	t.Helper()
	empty := smallest()
	empty.Nodes[1].Kids = nil
	programs := []impl.Program{{}, empty, chain(3), largest(), withKids(nil, []int{0})}
	for _, text := range append([]string{
		inProcess("call n . g ( 1 )"), inProcess("call m . g ( 1 )"), inProcess("read u"), inProcess("delay q"), inProcess("continue q"),
		inEntry("call n . g ( 1 )"), inEntry("read u"), inEntry("delay s"), inEntry("y := 1"), inProcess("call m . e ( 1 ) to u"), "process a uses m ; begin skip end ; .",
	}, namesWithFault...) {
		programs = append(programs, readFrom(t, text))
	}
	return programs
}

func TestNoModelOfWhatIsNotGranted(t *testing.T) {
	for _, p := range notGranted(t) {
		if impl.Granted(p) {
			t.Fatalf("%s is granted", told(p))
		}
		newIsRefused(t, told(p), p, nil)
		newIsRefused(t, told(p), p, list(1, 2))
		m := modelFrom(t, inProcess("skip"))
		m.Program = p
		modelOk(t, "a program that is not granted", m, false)
		stays(t, m, 0, 1)
	}
}

func TestInputs(t *testing.T) {
	p := readFrom(t, "process a ; var v ; begin read v ; print v end ; .")
	for size := range 21 {
		input := slices.Repeat(list(size+1), size)
		m, ok := impl.ModelNew(p, input)
		if !ok || !slices.Equal(m.Input, input) {
			t.Errorf("an Input of %d: %v, %v", size, ok, m.Input)
		}
		modelOk(t, "so much of Input", m, true)
	}
	for _, size := range list(21, 22, 40, 300000) {
		newIsRefused(t, fmt.Sprint("an Input of ", size), p, make([]int, size))
	}
	for _, n := range valueEdges {
		if m, ok := impl.ModelNew(p, list(1, n)); !ok || m.Input[1] != n {
			t.Errorf("an Input with %d: %v, %v", n, ok, m.Input)
		}
	}
	for _, n := range notValues {
		for at := range 20 {
			input := make([]int, 20)
			input[at] = n
			newIsRefused(t, fmt.Sprint("an Input with ", n), p, input)
		}
		newIsRefused(t, fmt.Sprint("an Input of ", n), p, list(n))
	}
}

func TestAPrintOutside(t *testing.T) {
	m := modelFrom(t, "process a ; var v ; begin v := 3 ; print v + 1 ; print - v end ; process b ; begin print 9 end ; .", 7)
	second := placeOfNth(t, m.Program, impl.NdPrint, 1)
	m = goesTo(t, m, 0, func(m *impl.Model) {
		m.Actors[0].Outer = threadOf(envOf("v", 3), second)
		toldEvent(m, 0, impl.EvPrint, 4)
	})
	m = goesTo(t, m, 0, func(m *impl.Model) {
		m.Actors[0].Outer.Todo = nil
		toldEvent(m, 0, impl.EvPrint, -3)
	})
	ableAre(t, m, 0, 1)
	verdictIs(t, m, impl.VdOpen)
}

func TestTheEndOfAProcess(t *testing.T) {
	m := modelFrom(t, "process a ; var v ; begin v := 3 ; if v then begin skip end end ; process b ; begin skip end ; .")
	m = goesTo(t, m, 0, func(m *impl.Model) {
		m.Actors[0].Outer = threadOf(envOf("v", 3))
		m.Actors[0].Over, m.Actors[0].Ready = true, false
		toldEvent(m, 0, impl.EvDone, 0)
	})
	ableAre(t, m, 1)
	verdictIs(t, m, impl.VdOpen)
	stays(t, m, 0)
	m = gone(t, m, 1)
	eventsAre(t, m, "0 done 0 ; 1 done 0")
	ableAre(t, m)
	verdictIs(t, m, impl.VdDone)
	stays(t, m, 0, 1)
}

func TestReads(t *testing.T) {
	m := modelFrom(t, "process a ; var v , w ; begin read w ; read v ; read w ; print v ; print w end ; .", 5, -1000000)
	statements := slices.Clone(m.Program.Nodes[m.Program.Processes[0].Body].Kids)
	slices.Reverse(statements)
	m = goesTo(t, m, 0, func(m *impl.Model) {
		m.Actors[0].Outer = threadOf(envOf("v w", 0, 5), statements[:4]...)
		m.Input = list(-1000000)
		toldEvent(m, 0, impl.EvRead, 5)
	})
	m = goesTo(t, m, 0, func(m *impl.Model) {
		m.Actors[0].Outer = threadOf(envOf("v w", -1000000, 5), statements[:3]...)
		m.Input = nil
		toldEvent(m, 0, impl.EvRead, -1000000)
	})
	goesTo(t, m, 0, func(m *impl.Model) {
		m.Actors[0].Outer = threadOf(envOf("v w", -1000000, 0), statements[:2]...)
		toldEvent(m, 0, impl.EvRead, 0)
	})
}

// What comes in goes to whoever reads first.
func TestReadsOfTwo(t *testing.T) {
	text := "process a ; var v ; begin read v ; print v ; read v ; print v end ; process b ; var v ; begin read v ; print v end ; ."
	for want, picks := range map[string][]int{
		"0 read 1 ; 0 print 1 ; 0 read 2 ; 0 print 2 ; 1 read 0 ; 1 print 0": list(0, 0, 0, 0, 1, 1),
		"1 read 1 ; 0 read 2 ; 1 print 1 ; 0 print 2 ; 0 read 0 ; 0 print 0": list(1, 0, 1, 0, 0, 0),
		"0 read 1 ; 1 read 2 ; 0 print 1 ; 0 read 0 ; 1 print 2 ; 0 print 0": list(0, 1, 0, 0, 1, 0),
	} {
		eventsAre(t, gone(t, modelFrom(t, text, 1, 2), picks...), want)
	}
}

// theRoom is a monitor at place 1 with an entry at place 1, which is called by two.
const theRoom = "monitor o ; entry h ( z ) begin skip end ; end ; " +
	"monitor m ; var n , k ; queue r , q ; entry f ( z ) begin skip end ; entry e ( x ) begin k := n + x ; ENTRY end ; end ; " +
	"process a uses m ; var v , w ; begin w := 2 ; call m . e ( w + 1 ) to v ; print v end ; process b uses o , m ; var v ; begin call m . e ( 8 ) ; print v end ; ."

// roomWith is the model of the room with these statements at the end of its entry.
func roomWith(t *testing.T, statements string) impl.Model {
	t.Helper()
	return modelFrom(t, strings.Replace(theRoom, "ENTRY", statements, 1))
}

// entered is the actor in the room, at the beginning.
func entered(m *impl.Model, process, param int) {
	actor := &m.Actors[process]
	actor.Monitor, actor.Entry = 1, 1
	actor.Inner = threadOf(envOf("x result", param, 0), m.Program.Monitors[1].Entries[1].Body)
}

func TestEntering(t *testing.T) {
	m := roomWith(t, "skip")
	m = goesTo(t, m, 0, func(m *impl.Model) {
		m.Actors[0].Outer = threadOf(envOf("v w", 0, 2), placeOfNth(t, m.Program, impl.NdPrint, 0), placeOfNth(t, m.Program, impl.NdCall, 0))
		entered(m, 0, 3)
		m.Gates[1].Owner = 0
		toldEvent(m, 0, impl.EvEnter, 1)
	})
	ableAre(t, m, 0, 1)
	// Another one is in: it waits until that one comes out.
	m = goesTo(t, m, 1, func(m *impl.Model) {
		m.Actors[1].Outer.Todo = list(placeOfNth(t, m.Program, impl.NdPrint, 1), placeOfNth(t, m.Program, impl.NdCall, 1))
		entered(m, 1, 8)
		m.Actors[1].Ready = false
		m.Gates[1].Waits = list(1)
		toldEvent(m, 1, impl.EvEnter, 1)
	})
	ableAre(t, m, 0)
	stays(t, m, 1)
}

// cameOut is the actor outside again, at its print.
func cameOut(t *testing.T, m *impl.Model, process int, e impl.Env) {
	t.Helper()
	outer := threadOf(e, placeOfNth(t, m.Program, impl.NdPrint, process))
	m.Actors[process] = impl.Actor{Outer: outer, Monitor: -1, Entry: -1, Ready: true}
}

func TestLeavingAMonitor(t *testing.T) {
	m := gone(t, roomWith(t, "n := 4 ; result := x * 10"), 0, 1)
	m = goesTo(t, m, 0, func(m *impl.Model) {
		cameOut(t, m, 0, envOf("v w", 30, 2))
		m.Vars[1] = envOf("n k", 4, 3)
		m.Gates[1] = gateOf(1, nil, list(-1, -1))
		m.Actors[1].Ready = true
		toldEvent(m, 0, impl.EvLeave, 1)
	})
	ableAre(t, m, 0, 1)
	// What came out of a call without To goes nowhere.
	m = goesTo(t, m, 1, func(m *impl.Model) {
		cameOut(t, m, 1, envOf("v", 0))
		m.Vars[1] = envOf("n k", 4, 12)
		m.Gates[1] = gateOf(-1, nil, list(-1, -1))
		toldEvent(m, 1, impl.EvLeave, 1)
	})
	eventsAre(t, gone(t, m, 0, 1, 1, 0), "0 enter 1 ; 1 enter 1 ; 0 leave 1 ; 1 leave 1 ; 0 print 30 ; 1 print 0 ; 1 done 0 ; 0 done 0")
}

func TestAPrintInside(t *testing.T) {
	m := gone(t, roomWith(t, "n := 4 ; result := 6 ; print n * 100 + k * 10 + x ; print result ; n := 9"), 0, 1)
	prints := list(placeOfNth(t, m.Program, impl.NdPrint, 0), placeOfNth(t, m.Program, impl.NdPrint, 1))
	last := m.Program.Nodes[m.Program.Monitors[1].Entries[1].Body].Kids[5]
	m = goesTo(t, m, 0, func(m *impl.Model) {
		m.Actors[0].Inner = threadOf(envOf("x result", 3, 6), last, prints[1])
		m.Vars[1] = envOf("n k", 4, 3)
		toldEvent(m, 0, impl.EvPrint, 433)
	})
	ableAre(t, m, 0)
	m = goesTo(t, m, 0, func(m *impl.Model) {
		m.Actors[0].Inner.Todo = list(last)
		toldEvent(m, 0, impl.EvPrint, 6)
	})
	m = gone(t, m, 0)
	if impl.GetIn(m.Vars[1], "n") != 9 || impl.GetIn(m.Actors[0].Outer.Env, "v") != 6 {
		t.Errorf("behind the entry are %v and %v", m.Vars[1], m.Actors[0].Outer.Env)
	}
}

func TestDelays(t *testing.T) {
	m := gone(t, roomWith(t, "n := n + 1 ; if n < 2 then begin delay q end else begin continue q ; n := 77 end ; result := n + 5"), 0, 1)
	delay := placeOfNth(t, m.Program, impl.NdDelay, 0)
	body := m.Program.Nodes[m.Program.Monitors[1].Entries[1].Body].Kids
	m = goesTo(t, m, 0, func(m *impl.Model) {
		m.Actors[0].Inner = threadOf(envOf("x result", 3, 0), body[3])
		m.Actors[0].Ready, m.Actors[1].Ready = false, true
		m.Vars[1] = envOf("n k", 1, 3)
		m.Gates[1] = gateOf(1, nil, list(-1, 0))
		toldEvent(m, 0, impl.EvDelay, 1)
	})
	if delay < 0 || len(body) != 4 {
		t.Fatal("the entry is another one")
	}
	ableAre(t, m, 1)
	stays(t, m, 0)
	// Who continues is outside at once: nothing behind it in the entry is done.
	m = goesTo(t, m, 1, func(m *impl.Model) {
		cameOut(t, m, 1, envOf("v", 0))
		m.Actors[0].Ready = true
		m.Vars[1] = envOf("n k", 2, 9)
		m.Gates[1] = gateOf(0, nil, list(-1, -1))
		toldEvent(m, 1, impl.EvCont, 1)
	})
	ableAre(t, m, 0, 1)
	// Who was delayed goes on behind the delay, with what others put meanwhile.
	m = goesTo(t, m, 0, func(m *impl.Model) {
		cameOut(t, m, 0, envOf("v w", 7, 2))
		m.Gates[1].Owner = -1
		toldEvent(m, 0, impl.EvLeave, 1)
	})
	verdictIs(t, m, impl.VdOpen)
}

func TestADelayWhereNobodyWantsIn(t *testing.T) {
	m := gone(t, roomWith(t, "delay r ; result := 1"), 0, 0)
	eventsAre(t, m, "0 enter 1 ; 0 delay 1")
	modelOk(t, "one delayed", m, true)
	gateIs(t, "the gate", m.Gates[1], gateOf(-1, nil, list(0, -1)))
	ableAre(t, m, 1)
	m = gone(t, m, 1)
	ableAre(t, m, 1)
	gateIs(t, "the gate", m.Gates[1], gateOf(1, nil, list(0, -1)))
}

func TestContinuingWhereNobodyIsDelayed(t *testing.T) {
	m := gone(t, roomWith(t, "result := 3 ; continue q ; result := 4"), 0, 1)
	m = goesTo(t, m, 0, func(m *impl.Model) {
		cameOut(t, m, 0, envOf("v w", 3, 2))
		m.Actors[1].Ready = true
		m.Vars[1] = envOf("n k", 0, 3)
		m.Gates[1] = gateOf(1, nil, list(-1, -1))
		toldEvent(m, 0, impl.EvCont, 1)
	})
	m = gone(t, m, 1)
	gateIs(t, "the gate", m.Gates[1], gateOf(-1, nil, list(-1, -1)))
	eventsAre(t, m, "0 enter 1 ; 1 enter 1 ; 0 cont 1 ; 1 cont 1")
}

// theInn has four guests. Each tells its number and the order in which it came; 1 is delayed, 2 continues, the others leave.
const theInn = "monitor m ; var n ; queue q ; entry e ( x ) begin n := n + 1 ; result := n ; if x = 1 then begin delay q end ; if x = 2 then begin continue q end end ; end ; " +
	"process a uses m ; var v ; begin call m . e ( 1 ) to v ; print v end ; process b uses m ; var v ; begin call m . e ( 2 ) to v ; print v end ; " +
	"process c uses m ; var v ; begin call m . e ( 3 ) to v ; print v end ; process d uses m ; var v ; begin call m . e ( 4 ) to v ; print v end ; ."

// Who was delayed is in again ahead of those who want in, and these go in as they came.
func TestWhoWasDelayedIsAhead(t *testing.T) {
	m := gone(t, modelFrom(t, theInn), 0, 0, 1, 3, 2)
	gateIs(t, "the gate", m.Gates[0], gateOf(1, list(3, 2), list(0)))
	ableAre(t, m, 1)
	m = gone(t, m, 1)
	gateIs(t, "the gate", m.Gates[0], gateOf(0, list(3, 2), list(-1)))
	ableAre(t, m, 0, 1)
	stays(t, m, 2, 3)
	m = gone(t, m, 0)
	ableAre(t, m, 0, 1, 3)
	m = gone(t, m, 3)
	ableAre(t, m, 0, 1, 2, 3)
	m = gone(t, m, 2, 2, 3, 0, 1)
	eventsAre(t, m, "0 enter 0 ; 0 delay 0 ; 1 enter 0 ; 3 enter 0 ; 2 enter 0 ; 1 cont 0 ; 0 leave 0 ; 3 leave 0 ; 2 leave 0 ; 2 print 4 ; 3 print 3 ; 0 print 1 ; 1 print 2")
	verdictIs(t, gone(t, m, 0, 1, 2, 3), impl.VdDone)
}

func TestWhoLeavesWhileOneIsDelayed(t *testing.T) {
	m := gone(t, modelFrom(t, theInn), 0, 0, 2, 3, 2, 3)
	gateIs(t, "the gate", m.Gates[0], gateOf(-1, nil, list(0)))
	ableAre(t, m, 1, 2, 3)
	stays(t, m, 0)
	m = gone(t, m, 3, 2, 2, 3, 1, 1)
	ableAre(t, m, 0, 1)
	eventsAre(t, gone(t, m, 0, 0), "0 enter 0 ; 0 delay 0 ; 2 enter 0 ; 3 enter 0 ; 2 leave 0 ; 3 leave 0 ; 3 print 3 ; 2 print 2 ; 2 done 0 ; 3 done 0 ; 1 enter 0 ; 1 cont 0 ; 0 leave 0 ; 0 print 1")
}

// The gates of two monitors have nothing to do with each other.
func TestTwoMonitors(t *testing.T) {
	text := "monitor m ; var n ; entry e ( x ) begin n := n + x ; print n end ; end ; monitor o ; var n ; queue q ; entry e ( x ) begin n := n - x ; print n ; continue q end ; end ; " +
		"process a uses m , o ; begin call m . e ( 3 ) ; call o . e ( 4 ) end ; process b uses o , m ; begin call o . e ( 5 ) ; call m . e ( 6 ) end ; ."
	m := gone(t, modelFrom(t, text), 0, 1)
	ableAre(t, m, 0, 1)
	m = gone(t, m, 1, 0, 0, 0)
	ableAre(t, m, 1)
	m = gone(t, m, 1, 1, 0, 1, 0, 1)
	eventsAre(t, m, "0 enter 0 ; 1 enter 1 ; 1 print -5 ; 0 print 3 ; 0 leave 0 ; 0 enter 1 ; 1 cont 1 ; 1 enter 0 ; 0 print -9 ; 1 print 9 ; 0 cont 1 ; 1 leave 0")
	for at, want := range []impl.Env{envOf("n", 9), envOf("n", -9)} {
		if !sameEnv(m.Vars[at], want) {
			t.Errorf("the Vars at %d are %v, want %v", at, m.Vars[at], want)
		}
	}
}

// Names of the process, of the monitor and of the entry that are alike are others.
func TestNamesThatAreAlike(t *testing.T) {
	m := modelFrom(t, "monitor m ; var v ; entry e ( w ) begin v := v + w ; w := 100 ; result := v * 10 end ; end ; "+
		"process a uses m ; var v , w ; begin v := 5 ; w := 6 ; call m . e ( w ) to w ; print v ; print w ; call m . e ( 1 ) to v ; print v end ; .")
	eventsAre(t, gone(t, m, 0, 0, 0, 0, 0, 0, 0), "0 enter 0 ; 0 leave 0 ; 0 print 5 ; 0 print 60 ; 0 enter 0 ; 0 leave 0 ; 0 print 70")
}

// What `result` was in one call is 0 in the next one.
func TestResultsBeginAtZero(t *testing.T) {
	m := modelFrom(t, "monitor m ; entry e ( x ) begin if x then begin result := x end end ; end ; "+
		"process a uses m ; var v ; begin v := 1 ; call m . e ( 7 ) to v ; print v ; call m . e ( 0 ) to v ; print v end ; .")
	m = gone(t, m, 0, 0, 0, 0, 0, 0)
	if got := impl.PrintsOf(m.Events); !slices.Equal(got, list(7, 0)) {
		t.Errorf("printed is %v", got)
	}
}

func TestRunsOfPicks(t *testing.T) {
	text := "process a ; begin print 1 ; print 2 end ; process b ; begin print 3 end ; process c ; begin print 4 end ; ."
	for want, picks := range map[string][]int{
		"": nil,
		"0 print 1 ; 1 print 3 ; 2 print 4 ; 0 print 2":                       list(0, 1, 2, 0),
		"2 print 4 ; 1 print 3 ; 0 print 1":                                   list(2, 1, 0),
		"2 print 4 ; 2 done 0 ; 1 print 3":                                    list(2, 2, 2, 2, 1),
		"0 print 1 ; 1 print 3":                                               list(3, 4),
		"1 print 3 ; 2 print 4 ; 0 print 1":                                   list(math.MaxInt, 5, 300),
		"0 print 1 ; 0 print 2 ; 0 done 0":                                    make([]int, 200),
		"2 print 4 ; 2 done 0":                                                slices.Repeat(list(8), 199),
		"1 print 3 ; 1 done 0 ; 2 print 4 ; 2 done 0 ; 0 print 1 ; 0 print 2": list(1, 1, 1, 2, 2, 2, 1, 0, 1, 0),
		"0 print 1 ; 1 print 3 ; 0 print 2 ; 1 done 0 ; 0 done 0 ; 2 print 4": list(0, 1, 0, 1, 0, 2),
	} {
		p := readFrom(t, text)
		m, ok := impl.RunModel(p, list(6), picks)
		if !ok {
			t.Errorf("RunModel of %v is false", picks)
		}
		eventsAre(t, m, want)
		modelOk(t, "a run", m, true)
		if told(m.Program) != told(p) || !slices.Equal(m.Input, list(6)) {
			t.Errorf("RunModel of %v has another program or Input", picks)
		}
	}
}

func TestPicksThatAreWrong(t *testing.T) {
	p := readFrom(t, "process a ; begin print 1 end ; process b ; begin print 2 end ; .")
	for _, picks := range [][]int{make([]int, 201), make([]int, 202), make([]int, 300000), list(-1), list(0, 1, -1), list(-2, 0), list(0, math.MinInt), append(make([]int, 199), -1), append(make([]int, 200), -1)} {
		runIsRefused(t, fmt.Sprintf("%.100v", picks), p, nil, picks)
		runIsRefused(t, fmt.Sprintf("%.100v", picks), impl.Program{}, nil, picks)
	}
	runIsRefused(t, "wrong picks and too much Input", p, make([]int, 21), list(-1))
}

func TestRunsWithoutAModel(t *testing.T) {
	p := readFrom(t, inProcess("delay q"))
	for _, picks := range [][]int{nil, list(0), list(0, 1, 2), make([]int, 200)} {
		runIsRefused(t, "what is not granted", p, nil, picks)
		runIsRefused(t, "too much Input", readFrom(t, inProcess("skip")), make([]int, 21), picks)
		runIsRefused(t, "an Input that is no value", readFrom(t, inProcess("skip")), list(1000001), picks)
	}
}

func TestVerdicts(t *testing.T) {
	two := modelFrom(t, "process a ; begin print 1 end ; process b ; begin skip end ; .")
	verdictIs(t, two, impl.VdOpen)
	verdictIs(t, gone(t, two, 1), impl.VdOpen)
	verdictIs(t, gone(t, two, 0, 0), impl.VdOpen)
	verdictIs(t, gone(t, two, 0, 0, 1), impl.VdDone)
	lone := modelFrom(t, "monitor m ; queue q ; entry e ( x ) begin delay q end ; end ; process a uses m ; begin call m . e ( 1 ) end ; process b ; begin print 1 / 0 end ; .")
	verdictIs(t, gone(t, lone, 0, 0), impl.VdOpen)
	verdictIs(t, gone(t, lone, 1), impl.VdFault)
	verdictIs(t, gone(t, lone, 0, 0, 1), impl.VdFault)
	stuck := modelFrom(t, "monitor m ; queue q , r ; entry e ( x ) begin if x then begin delay q end else begin delay r end end ; end ; process a uses m ; begin call m . e ( 1 ) end ; process b uses m ; begin call m . e ( 0 ) end ; .")
	verdictIs(t, gone(t, stuck, 0, 0), impl.VdOpen)
	verdictIs(t, gone(t, stuck, 0, 0, 1), impl.VdOpen)
	stuck = gone(t, stuck, 0, 0, 1, 1)
	verdictIs(t, stuck, impl.VdStuck)
	ableAre(t, stuck)
	stays(t, stuck, 0, 1)
	left := modelFrom(t, "monitor m ; queue q ; entry e ( x ) begin delay q end ; end ; process a uses m ; begin call m . e ( 1 ) end ; process b ; begin skip end ; .")
	verdictIs(t, gone(t, left, 0, 0, 1), impl.VdStuck)
}

// Verdicts and who is Able are told by the flags alone, whatever else the model is.
func TestVerdictsOfFlags(t *testing.T) {
	ready, over, both, none := impl.Actor{Ready: true}, impl.Actor{Over: true}, impl.Actor{Ready: true, Over: true}, impl.Actor{}
	for _, c := range []struct {
		actors  []impl.Actor
		verdict int
		able    []int
	}{
		{nil, impl.VdDone, nil},
		{[]impl.Actor{over, over}, impl.VdDone, nil},
		{[]impl.Actor{both}, impl.VdDone, list(0)},
		{[]impl.Actor{over, none}, impl.VdStuck, nil},
		{[]impl.Actor{none}, impl.VdStuck, nil},
		{[]impl.Actor{none, both, over, ready}, impl.VdOpen, list(1, 3)},
		{[]impl.Actor{over, ready}, impl.VdOpen, list(1)},
		{[]impl.Actor{none, ready, none, none, none, ready}, impl.VdOpen, list(1, 5)},
	} {
		verdictIs(t, impl.Model{Actors: c.actors}, c.verdict)
		ableAre(t, impl.Model{Actors: c.actors}, c.able...)
		verdictIs(t, impl.Model{Actors: c.actors, Stopped: true}, impl.VdFault)
		ableAre(t, impl.Model{Actors: c.actors, Stopped: true})
	}
}

func TestPrints(t *testing.T) {
	for kind := range 10 {
		want := []int{}
		if kind == impl.EvPrint {
			want = list(7, -8, 7)
		}
		events := []impl.Event{{Process: 0, Kind: kind, Num: 7}, {Process: 3, Kind: kind, Num: -8}, {Process: -5, Kind: kind, Num: 7}}
		if got := impl.PrintsOf(events); !slices.Equal(got, want) {
			t.Errorf("PrintsOf events of kind %d = %v", kind, got)
		}
	}
	mixed := []impl.Event{}
	for i := range 60 {
		mixed = append(mixed, impl.Event{Process: i, Kind: i%12 - 2, Num: i * math.MaxInt / 60})
	}
	if got, want := impl.PrintsOf(mixed), list(mixed[7].Num, mixed[19].Num, mixed[31].Num, mixed[43].Num, mixed[55].Num); !slices.Equal(got, want) {
		t.Errorf("PrintsOf mixed events = %v, want %v", got, want)
	}
	if got := impl.PrintsOf(nil); len(got) != 0 {
		t.Errorf("PrintsOf nothing = %v", got)
	}
	for _, kind := range list(256+impl.EvPrint, -impl.EvPrint, 1<<32+impl.EvPrint) {
		if got := impl.PrintsOf([]impl.Event{{Kind: kind, Num: 1}}); len(got) != 0 {
			t.Errorf("PrintsOf kind %d = %v", kind, got)
		}
	}
}
