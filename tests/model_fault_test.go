package tests

import (
	"fmt"
	"slices"
	"strings"
	"testing"

	"loop.example/g00290/impl"
)

// stopsWith asks for a fault as the next event of a process, and that nothing goes on behind it.
func stopsWith(t *testing.T, m impl.Model, process, fault int) impl.Model {
	t.Helper()
	next := gone(t, m, process)
	if got, want := next.Events[len(m.Events)], (impl.Event{Process: process, Kind: impl.EvFault, Num: fault}); got != want || !next.Stopped {
		t.Errorf("behind %q comes %s, stopped is %v; want fault %d of %d", eventsTold(m.Events), eventsTold(next.Events[len(m.Events):]), next.Stopped, fault, process)
	}
	ableAre(t, next)
	verdictIs(t, next, impl.VdFault)
	for other := range next.Actors {
		stays(t, next, other)
	}
	return next
}

// theFaults are values with a fault, whatever the names stand for.
var theFaults = map[string]int{"1 / 0": impl.FaultZero, "7 % ( 1 - 1 )": impl.FaultZero, "1000 * 1001": impl.FaultRange, "0 - 999999 - 2": impl.FaultRange, "1 or 1 / 0": impl.FaultZero, "0 and 999999 * 2": impl.FaultRange}

func TestFaultsOutside(t *testing.T) {
	for value, fault := range theFaults {
		for _, statement := range []string{"v := %s", "print %s", "call m . e ( %s )", "call m . e ( %s ) to v", "if %s then begin skip end", "if %s then begin skip end else begin print 1 end", "while %s do begin skip end"} {
			text := "monitor m ; entry e ( x ) begin skip end ; end ; process a uses m ; var v , w ; begin w := 4 ; " + fmt.Sprintf(statement, value) + " ; print 2 end ; process b ; begin print 3 end ; ."
			m := modelFrom(t, text)
			stopped := stopsWith(t, m, 0, fault)
			stopsWith(t, gone(t, m, 1), 0, fault)
			actor := stopped.Actors[0]
			threadFault := fault * truth(!strings.HasPrefix(statement, "print") && !strings.HasPrefix(statement, "call"))
			if actor.Outer.Fault != threadFault || !sameEnv(actor.Outer.Env, envOf("v w", 0, 4)) || len(actor.Outer.Todo) != 2 || actor.Monitor != -1 || actor.Entry != -1 || actor.Over {
				t.Errorf("%q: the actor is %+v", text, actor)
			}
			gateIs(t, "the gate", stopped.Gates[0], impl.GateNew(0))
			modelOk(t, "a fault", stopped, true)
		}
	}
}

// What was put ahead of a fault stays, who is in stays in, and who wants in waits on.
func TestFaultsWithinAMonitor(t *testing.T) {
	for value, fault := range theFaults {
		for _, statement := range []string{"n := %s", "x := %s", "result := %s", "print %s", "if %s then begin skip end", "while %s do begin skip end"} {
			m := gone(t, roomWith(t, "n := 6 ; result := 7 ; x := 8 ; "+fmt.Sprintf(statement, value)+" ; n := 9"), 0, 1)
			stopped := stopsWith(t, m, 0, fault)
			eventsAre(t, stopped, fmt.Sprint("0 enter 1 ; 1 enter 1 ; 0 fault ", fault))
			gateIs(t, "the gate", stopped.Gates[1], gateOf(0, list(1), list(-1, -1)))
			if !sameEnv(stopped.Vars[1], envOf("n k", 6, 3)) || !sameEnv(stopped.Vars[0], impl.Env{}) {
				t.Errorf("%s of %s: the Vars are %v", statement, value, stopped.Vars)
			}
			actor := stopped.Actors[0]
			threadFault := fault * truth(!strings.HasPrefix(statement, "print"))
			if actor.Inner.Fault != threadFault || !sameEnv(actor.Inner.Env, envOf("x result", 8, 7)) || len(actor.Inner.Todo) != 2 || actor.Monitor != 1 || actor.Entry != 1 || actor.Over {
				t.Errorf("%s of %s: the actor is %+v", statement, value, actor)
			}
			if told(stopped.Program) != told(m.Program) || modelTold(impl.Model{Actors: stopped.Actors[1:]}) != modelTold(impl.Model{Actors: m.Actors[1:]}) {
				t.Errorf("%s of %s changed what is not its own", statement, value)
			}
			modelOk(t, "a fault within", stopped, true)
		}
	}
}

// A fault that only comes with what the names stand for.
func TestFaultsOfNames(t *testing.T) {
	m := roomWith(t, "n := n + 1 ; print 6 / ( n - 2 ) ; result := 1")
	m = gone(t, m, 0, 1, 0, 0)
	stopsWith(t, m, 1, impl.FaultZero)
	m = modelFrom(t, "process a ; var v ; begin read v ; print 6 / v ; read v ; print 6 / v end ; .", 4)
	m = gone(t, m, 0, 0, 0)
	eventsAre(t, stopsWith(t, m, 0, impl.FaultZero), "0 read 4 ; 0 print 1 ; 0 read 0 ; 0 fault 2")
}

func TestAQueueThatIsTaken(t *testing.T) {
	m := gone(t, roomWith(t, "n := n + 3 ; delay q ; n := 50"), 0, 1, 0)
	eventsAre(t, m, "0 enter 1 ; 1 enter 1 ; 0 delay 1")
	stopped := stopsWith(t, m, 1, impl.FaultQueue)
	gateIs(t, "the gate", stopped.Gates[1], gateOf(1, nil, list(-1, 0)))
	if !sameEnv(stopped.Vars[1], envOf("n k", 6, 11)) || stopped.Actors[1].Monitor != 1 || stopped.Actors[0].Ready {
		t.Errorf("a queue that is taken: %+v, %v", stopped.Actors, stopped.Vars)
	}
	modelOk(t, "a queue that is taken", stopped, true)
	// The other queue is free.
	m = gone(t, roomWith(t, "n := n + 1 ; if n = 1 then begin delay q end else begin delay r end"), 0, 0, 1, 1)
	eventsAre(t, m, "0 enter 1 ; 0 delay 1 ; 1 enter 1 ; 1 delay 1")
	verdictIs(t, m, impl.VdStuck)
}

// A delay or a continue outside stands in no text; a model in which one comes is right all the same.
func TestDelaysAndContinuesOutside(t *testing.T) {
	m := roomWith(t, "delay q ; continue r")
	for _, kind := range list(impl.NdDelay, impl.NdCont) {
		at := placeOfNth(t, m.Program, kind, 0)
		for _, todo := range [][]int{list(at), append(slices.Clone(m.Actors[0].Outer.Todo), at)} {
			wrong := deepCopy(m)
			wrong.Actors[0].Outer.Todo = todo
			modelOk(t, "an act of an entry outside", wrong, true)
			stopped := stopsWith(t, wrong, 0, impl.FaultWord)
			eventsAre(t, stopped, "0 fault 4")
			gateIs(t, "the gate", stopped.Gates[1], impl.GateNew(2))
			stopsWith(t, gone(t, wrong, 1), 0, impl.FaultWord)
		}
	}
}

// The Fault of a thread is told as it stands.
func TestThreadsWithAFault(t *testing.T) {
	for _, fault := range list(impl.FaultRange, impl.FaultZero, impl.FaultQueue, impl.FaultWord, 9, -1) {
		m := roomWith(t, "skip")
		m.Actors[0].Outer.Fault = fault
		modelOk(t, "a fault of a thread", m, true)
		stopsWith(t, m, 0, fault)
		m = gone(t, roomWith(t, "skip"), 0, 1)
		m.Actors[0].Inner.Fault = fault
		modelOk(t, "a fault of a thread", m, true)
		stopsWith(t, m, 0, fault)
	}
}

// With too much to be done the thread has a fault, outside and within.
func TestTooMuchToBeDone(t *testing.T) {
	m := gone(t, roomWith(t, "skip ; skip"), 0, 1)
	body := m.Program.Monitors[1].Entries[1].Body
	m.Actors[0].Inner.Todo = slices.Repeat(list(body), 200)
	modelOk(t, "200 to be done", m, true)
	stopsWith(t, m, 0, impl.FaultWord)
	m = modelFrom(t, "process a ; begin skip ; skip end ; .")
	m.Actors[0].Outer.Todo = slices.Repeat(list(m.Program.Processes[0].Body), 199)
	eventsAre(t, gone(t, m, 0), "0 done 0")
	m.Actors[0].Outer.Todo = slices.Repeat(list(m.Program.Processes[0].Body), 200)
	stopsWith(t, m, 0, impl.FaultWord)
}

func TestBodiesOfNothing(t *testing.T) {
	m := modelFrom(t, "monitor m ; entry e ( x ) begin skip end ; end ; process a uses m ; var v ; begin v := 8 ; call m . e ( 1 ) to v ; skip end ; process b ; begin skip end ; .")
	eventsAre(t, gone(t, m, 1, 0, 0, 0), "1 done 0 ; 0 enter 0 ; 0 leave 0 ; 0 done 0")
	m.Actors[1].Outer.Todo = nil
	modelOk(t, "nothing to be done", m, true)
	eventsAre(t, gone(t, m, 1), "1 done 0")
	m = gone(t, m, 0)
	m.Actors[0].Inner.Todo = nil
	modelOk(t, "nothing to be done within", m, true)
	m = gone(t, m, 0)
	eventsAre(t, m, "0 enter 0 ; 0 leave 0")
	gets(t, m.Actors[0].Outer.Env, "v", 0)
}

// stepsAhead are statements of just so many steps, but for the one of the block in which they stand.
func stepsAhead(steps int, name string) string {
	rounds, skips := (steps-3)/3, (steps-3)%3
	return fmt.Sprintf("%s := %d ; while %s do begin %s := %s - 1 end", name, rounds, name, name, name) + strings.Repeat(" ; skip", skips)
}

func TestTheLongestWayToAnEvent(t *testing.T) {
	for _, steps := range list(3, 10, 998, 999, 1000, 1001, 1002, 1003, 2000) {
		for behind, want := range map[string]string{"": "0 done 0", " ; print 7": "0 print 7", " ; call m . e ( 1 )": "0 enter 0", " ; read v": "0 read 0", " ; v := 1 / 0": "0 fault 2"} {
			text := "monitor m ; entry e ( x ) begin skip end ; end ; process a uses m ; var v ; begin " + stepsAhead(steps, "v") + behind + " end ; process b ; begin print 1 end ; ."
			m, needed := modelFrom(t, text), steps+truth(strings.Contains(behind, "/"))
			if needed > 1000 {
				stays(t, m, 0)
				ableAre(t, m, 0, 1)
				eventsAre(t, gone(t, m, 1), "1 print 1")
				continue
			}
			eventsAre(t, gone(t, m, 0), want)
		}
	}
}

func TestTheLongestWayInside(t *testing.T) {
	for _, steps := range list(3, 10, 999, 1000, 1001, 1002, 2000) {
		for behind, want := range map[string]string{"": "0 leave 0", " ; print 7": "0 print 7", " ; delay q": "0 delay 0", " ; continue q": "0 cont 0", " ; n := 1 / 0": "0 fault 2"} {
			text := "monitor m ; var n ; queue q ; entry e ( x ) begin " + stepsAhead(steps, "n") + behind + " end ; end ; process a uses m ; begin call m . e ( 1 ) end ; process b uses m ; begin call m . e ( 1 ) end ; ."
			m, needed := gone(t, modelFrom(t, text), 0, 1), steps+truth(strings.Contains(behind, "/"))
			if needed > 1000 {
				stays(t, m, 0, 1)
				ableAre(t, m, 0)
				verdictIs(t, m, impl.VdOpen)
				continue
			}
			eventsAre(t, gone(t, m, 0), "0 enter 0 ; 1 enter 0 ; "+want)
		}
	}
}

// The way to each event is counted by itself.
func TestWaysAreCountedEachByItself(t *testing.T) {
	text := "monitor m ; var n ; entry e ( x ) begin " + stepsAhead(900, "n") + " ; print 2 ; " + stepsAhead(900, "n") + " end ; end ; process a uses m ; var v ; begin " + stepsAhead(900, "v") + " ; print 1 ; " + stepsAhead(900, "v") + " ; call m . e ( 1 ) ; " + stepsAhead(900, "v") + " end ; ."
	m := gone(t, modelFrom(t, text), 0, 0, 0, 0, 0)
	eventsAre(t, m, "0 print 1 ; 0 enter 0 ; 0 print 2 ; 0 leave 0 ; 0 done 0")
}

// A loop that comes to no event is passed over, however often it is picked; others go on.
func TestLoopsWithoutAnEvent(t *testing.T) {
	p := readFrom(t, "monitor m ; var n ; entry e ( x ) begin n := 5 ; while n do begin skip end end ; end ; process a ; var v ; begin print 1 ; while 1 do begin v := 1 - v end end ; process b uses m ; begin call m . e ( 1 ) end ; process c uses m ; begin print 2 ; call m . e ( 2 ) end ; .")
	m, ok := impl.RunModel(p, nil, slices.Repeat(list(0, 1, 2), 20))
	if !ok {
		t.Error("RunModel is false")
	}
	eventsAre(t, m, "0 print 1 ; 1 enter 0 ; 2 print 2 ; 2 enter 0")
	gateIs(t, "the gate", m.Gates[0], gateOf(1, list(2), nil))
	// What was done on the way to no event is not to be seen.
	gets(t, m.Vars[0], "n", 0)
	ableAre(t, m, 0, 1)
	verdictIs(t, m, impl.VdOpen)
	stays(t, m, 0, 1, 2)
}

// A read or a call stands in no entry, so that an actor that comes to one inside comes to no event.
func TestActsOfProcessesInside(t *testing.T) {
	m := gone(t, modelFrom(t, "monitor m ; var n ; entry e ( x ) begin n := 7 end ; end ; process a uses m ; var v ; begin call m . e ( 1 ) ; read v end ; process b ; begin skip end ; .", 5), 0)
	for _, kind := range list(impl.NdRead, impl.NdCall) {
		m.Actors[0].Inner.Todo = list(placeOfNth(t, m.Program, kind, 0), placeOfNth(t, m.Program, impl.NdSet, 0))
		modelOk(t, "an act of a process inside", m, true)
		stays(t, m, 0)
	}
}

// A right model may have gates that tell of others than its actors do; they are taken at their word.
func TestGatesThatTellOfOthers(t *testing.T) {
	for _, c := range []struct {
		gate   impl.Gate
		ends   string
		behind impl.Gate
		able   []int
	}{
		{gateOf(0, list(3), list(-1, -1)), "skip", gateOf(3, nil, list(-1, -1)), list(0, 1)},
		{gateOf(0, list(1), list(3, 2)), "continue q", gateOf(2, list(1), list(3, -1)), list(0, 1)},
		{gateOf(0, list(1), list(3, 2)), "continue r", gateOf(3, list(1), list(-1, 2)), list(0, 1)},
		{gateOf(0, list(2, 3), list(-1, -1)), "delay r", gateOf(2, list(3), list(0, -1)), list(1)},
		{gateOf(-1, nil, list(1, -1)), "skip", gateOf(-1, nil, list(1, -1)), list(0, 1)},
	} {
		m := gone(t, roomWith(t, c.ends), 0)
		m.Gates[1] = c.gate
		modelOk(t, "a gate that tells of others", m, true)
		next := gone(t, m, 0)
		gateIs(t, "the gate behind "+c.ends, next.Gates[1], c.behind)
		ableAre(t, next, c.able...)
	}
	m := gone(t, roomWith(t, "delay q"), 0)
	m.Gates[1] = gateOf(-1, nil, list(-1, -1))
	stopsWith(t, m, 0, impl.FaultQueue)
}

func TestProcessesThatAreNone(t *testing.T) {
	for _, m := range []impl.Model{roomWith(t, "skip"), gone(t, roomWith(t, "delay q"), 0, 1), modelFrom(t, "process a ; begin print 1 end ; ."), modelFrom(t, theInn)} {
		stays(t, m, placesBeyond(len(m.Actors))...)
	}
}

func TestStoppedModelsStay(t *testing.T) {
	for _, m := range []impl.Model{roomWith(t, "skip"), gone(t, roomWith(t, "delay q"), 0), modelFrom(t, theInn)} {
		m.Stopped = true
		modelOk(t, "a stop", m, true)
		stays(t, m, 0, 1)
		ableAre(t, m)
		verdictIs(t, m, impl.VdFault)
	}
}

func TestWhoIsNotReadyStays(t *testing.T) {
	for _, m := range []impl.Model{roomWith(t, "skip"), gone(t, roomWith(t, "skip"), 0), modelFrom(t, theInn)} {
		m.Actors[0].Ready = false
		modelOk(t, "one that is not ready", m, true)
		stays(t, m, 0)
		gone(t, m, 1)
	}
}
