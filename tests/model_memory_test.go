package tests

import (
	"fmt"
	"slices"
	"testing"

	"loop.example/g00290/impl"
)

// someModels are right models in which each kind of event comes next, and some that are not right.
func someModels(t *testing.T) []impl.Model {
	t.Helper()
	models := []impl.Model{{}, oneIn(t), modelFrom(t, theInn), gone(t, modelFrom(t, theInn), 0, 0, 1, 3, 2), gone(t, modelFrom(t, theInn), 0, 0, 1, 3, 2, 1)}
	for _, statements := range []string{"n := 1 ; result := 5", "print k", "delay q", "continue q", "n := 1 / 0", "print 1 / 0", "while 1 do begin n := 1 - n end"} {
		m := roomWith(t, statements)
		models = append(models, m, gone(t, m, 0), gone(t, m, 0, 1))
	}
	m := modelFrom(t, "process a ; var v , w ; begin read v ; read w ; read v ; print v / w end ; process b ; begin skip end ; .", 3, 4)
	models = append(models, m, gone(t, m, 0), gone(t, m, 0, 0), gone(t, m, 0, 0, 0), gone(t, m, 0, 0, 0, 0), gone(t, m, 0, 1))
	for _, start := range []impl.Model{oneIn(t), gone(t, modelFrom(t, theInn), 0, 0, 1)} {
		for _, change := range []func(m *impl.Model){
			func(m *impl.Model) { m.Stopped = true },
			func(m *impl.Model) { m.Gates = m.Gates[:0] },
			func(m *impl.Model) { m.Vars = append(m.Vars, envOf("v", 1, 2), envOf("v v v")) },
			func(m *impl.Model) { m.Actors = append(m.Actors, m.Actors[0], m.Actors[1]) },
			func(m *impl.Model) { m.Program.Monitors = nil },
			func(m *impl.Model) { m.Program.Nodes[0].Kids = list(3, 4, 5) },
		} {
			wrong := deepCopy(start)
			change(&wrong)
			models = append(models, wrong)
		}
	}
	return models
}

func TestModelsAreLeftAsTheyWere(t *testing.T) {
	for _, fresh := range someModels(t) {
		m := withRooms(fresh)
		was := toldWithRoom(m)
		for process := -1; process <= len(m.Actors); process++ {
			impl.ModelGo(m, process)
		}
		impl.ModelOk(m)
		impl.Able(m)
		impl.VerdictOf(m)
		impl.PrintsOf(m.Events)
		if toldWithRoom(m) != was {
			t.Errorf("a model was changed from %.2000s to %.2000s", was, toldWithRoom(m))
		}
	}
}

func TestModelsAreNewMemory(t *testing.T) {
	for _, fresh := range someModels(t) {
		m := withRooms(fresh)
		for process := -1; process <= len(m.Actors); process++ {
			next, went := impl.ModelGo(m, process)
			isNewMemory(t, "ModelGo", next, m)
			tight, wentTight := impl.ModelGo(fresh, process)
			modelIs(t, "ModelGo without room", tight, next)
			isNewMemory(t, "ModelGo", tight, fresh, next)
			if went != wentTight {
				t.Errorf("ModelGo hangs on the room behind lists: %v, %v", went, wentTight)
			}
		}
		able, prints := impl.Able(m), impl.PrintsOf(m.Events)
		isNewMemory(t, "Able", able, m, impl.Able(m))
		isNewMemory(t, "PrintsOf", prints, m, impl.PrintsOf(m.Events))
	}
}

// Lists that are handed in as one memory come out apart.
func TestModelsOfOneMemory(t *testing.T) {
	for _, start := range someModels(t) {
		m := deepCopy(start)
		if len(m.Actors) < 2 || len(m.Gates) == 0 {
			continue
		}
		shared := m.Actors[0]
		for i := range m.Actors {
			m.Actors[i].Outer, m.Actors[i].Inner = shared.Outer, shared.Outer
		}
		m.Gates[0].Waits = m.Gates[0].Queues
		m.Input = m.Actors[0].Outer.Todo
		was := toldWithRoom(m)
		for process := range m.Actors {
			next, _ := impl.ModelGo(m, process)
			isNewMemory(t, "ModelGo of one memory", next, m)
		}
		if toldWithRoom(m) != was {
			t.Errorf("a model was changed to %.2000s", toldWithRoom(m))
		}
	}
	// Names and lists of a right program may be one memory, too, and its two processes may be one.
	p := readFrom(t, "monitor m ; var v , w ; queue q , r ; entry e ( x ) begin skip end ; end ; process a uses m ; var v , w ; begin print v end ; process b uses m ; var v , w ; begin print w end ; .")
	p.Processes[0].Vars, p.Processes[1].Vars = p.Monitors[0].Vars, p.Monitors[0].Vars
	p.Processes[1].Uses = p.Processes[0].Uses
	picks := list(0, 1, 1)
	m, ok := impl.RunModel(p, picks, picks)
	if !ok {
		t.Error("a program of one memory is refused")
	}
	isNewMemory(t, "RunModel of one memory", m, p, picks)
	eventsAre(t, m, "0 print 0 ; 1 print 0 ; 1 done 0")
	m, _ = impl.ModelNew(p, picks)
	isNewMemory(t, "ModelNew of one memory", m, p, picks)
}

func TestProgramsOfModelsAreLeft(t *testing.T) {
	programs := append(notGranted(t), askedPrograms(t)...)
	for _, text := range []string{theInn, theShelf + ".", inEntry("delay q ; print x"), inProcess("read c ; call m . e ( c ) to d")} {
		programs = append(programs, readFrom(t, text))
	}
	for _, fresh := range programs {
		p, input, picks := withRooms(fresh), withRoom(list(3, 4, 5), 77), withRoom(list(0, 1, 0, 0, 1, 2, 3, 1, 1, 0), 77)
		was := fmt.Sprint(toldWithRoom(p), toldWithRoom(input), toldWithRoom(picks))
		m, ok := impl.ModelNew(p, input)
		run, okRun := impl.RunModel(p, input, picks)
		if ok != okRun || ok != impl.Granted(fresh) {
			t.Errorf("ModelNew tells %v, RunModel %v of %.2000s", ok, okRun, told(fresh))
		}
		isNewMemory(t, "ModelNew", m, p, input, run)
		isNewMemory(t, "RunModel", run, p, input, picks)
		again, _ := impl.RunModel(fresh, slices.Clone(input), slices.Clone(picks))
		modelIs(t, "RunModel again", again, run)
		if fmt.Sprint(toldWithRoom(p), toldWithRoom(input), toldWithRoom(picks)) != was {
			t.Errorf("ModelNew or RunModel changed what was handed in: %.2000s", told(p))
		}
	}
}

// A model that is kept is not changed by those that come from it, nor by what is done to its arguments later.
func TestModelsStandByThemselves(t *testing.T) {
	p, input := readFrom(t, theInn), list(1, 2)
	first, _ := impl.ModelNew(p, input)
	was := modelTold(first)
	second := gone(t, first, 0, 0, 1)
	wasSecond := modelTold(second)
	gone(t, second, 1, 0, 2, 3)
	gone(t, second, 2, 3)
	for k := range p.Nodes {
		p.Nodes[k] = impl.Node{Kind: 77, Kids: p.Nodes[k].Kids}
		spoilList(p.Nodes[k].Kids)
	}
	p.Monitors[0].Entries[0].Body, p.Monitors[0].Queues[0], p.Processes[0].Vars[0], p.Processes[0].Uses[0] = -9, "z", "z", "z"
	spoilList(input)
	if modelTold(first) != was || modelTold(second) != wasSecond {
		t.Error("a model is changed by what is done elsewhere")
	}
}

// However long the lists of a model are, each call ends.
func TestLongModels(t *testing.T) {
	m := oneIn(t)
	long := slices.Repeat(list(0), 100000)
	m.Events = slices.Repeat([]impl.Event{{Kind: impl.EvPrint, Num: 4}}, 100000)
	next := gone(t, m, 0)
	if len(impl.PrintsOf(next.Events)) != 100000 || next.Events[100000] != (impl.Event{Process: 0, Kind: impl.EvLeave, Num: 1}) {
		t.Errorf("behind many events comes %v", next.Events[100000:])
	}
	for _, change := range []func(m *impl.Model){
		func(m *impl.Model) { m.Input = long },
		func(m *impl.Model) { m.Actors[0].Outer.Todo = long },
		func(m *impl.Model) { m.Actors[1].Inner.Todo = long },
		func(m *impl.Model) { m.Actors[0].Inner.Env = impl.Env{Names: unlikeNames(100000), Vals: long} },
		func(m *impl.Model) { m.Vars[0] = impl.Env{Names: unlikeNames(100000), Vals: long} },
		func(m *impl.Model) { m.Gates[1].Waits = long },
		func(m *impl.Model) { m.Gates = make([]impl.Gate, 100000) },
		func(m *impl.Model) { m.Vars = make([]impl.Env, 100000) },
		func(m *impl.Model) { m.Actors = make([]impl.Actor, 100000) },
		func(m *impl.Model) { m.Program.Nodes = make([]impl.Node, 100000) },
		func(m *impl.Model) { m.Program.Processes = make([]impl.Process, 100000) },
	} {
		wrong := oneIn(t)
		change(&wrong)
		if impl.ModelOk(wrong) {
			t.Error("a long model is right")
		}
		same, went := impl.ModelGo(wrong, 0)
		if went || len(same.Actors) != len(wrong.Actors) || len(same.Gates) != len(wrong.Gates) || len(same.Vars) != len(wrong.Vars) || len(same.Input) != len(wrong.Input) || len(same.Program.Nodes) != len(wrong.Program.Nodes) {
			t.Error("a long model is not as it was")
		}
		impl.VerdictOf(wrong)
		impl.Able(wrong)
	}
}
