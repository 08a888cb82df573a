package tests

import (
	"fmt"
	"math"
	"reflect"
	"slices"
	"testing"

	"loop.example/g00290/impl"
)

// oneIn is a model in which process 0 is in the monitor at 1, process 1 waits for it, and process 2 is outside.
func oneIn(t *testing.T) impl.Model {
	t.Helper()
	m := modelFrom(t, "monitor o ; entry h ( z ) begin skip end ; end ; "+
		"monitor m ; var n , k ; queue r ; entry f ( z ) begin skip end ; entry e ( x ) begin k := 5 ; print x ; n := k end ; end ; "+
		"process a uses m ; var v , w ; begin call m . e ( 3 ) to v ; print v end ; process b uses m ; begin call m . e ( 4 ) end ; process c ; var v ; begin read v ; print v end ; .", 8, 9)
	return gone(t, m, 0, 0, 1, 2)
}

// changedModel asks whether that model is right, once it is changed; when it isn't, it is answered as it is.
func changedModel(t *testing.T, what string, want bool, change func(m *impl.Model)) {
	t.Helper()
	m := oneIn(t)
	change(&m)
	modelOk(t, what, m, want)
	if !want {
		stays(t, m, append(placesBeyond(len(m.Actors)), 0, 1, 2)...)
	}
}

func TestModelsWithALittleMore(t *testing.T) {
	changedModel(t, "nothing else", true, func(m *impl.Model) {})
	changedModel(t, "20 of Input", true, func(m *impl.Model) { m.Input = slices.Repeat(list(-1000000, 1000000), 10) })
	changedModel(t, "no Input", true, func(m *impl.Model) { m.Input = nil })
	changedModel(t, "no events", true, func(m *impl.Model) { m.Events = nil })
	changedModel(t, "any events", true, func(m *impl.Model) { m.Events = []impl.Event{{Process: -7, Kind: 99, Num: math.MaxInt}} })
	changedModel(t, "another gate", true, func(m *impl.Model) { m.Gates[1] = gateOf(3, list(0, 1), list(2)) })
	changedModel(t, "values at the edge", true, func(m *impl.Model) { m.Vars[1].Vals = list(-1000000, 1000000) })
	changedModel(t, "flags turned", true, func(m *impl.Model) {
		for i := range m.Actors {
			m.Actors[i].Ready, m.Actors[i].Over = !m.Actors[i].Ready, !m.Actors[i].Over
		}
	})
	changedModel(t, "any Inner Env outside", true, func(m *impl.Model) { m.Actors[2].Inner.Env = envOf("v v", 1<<40) })
	changedModel(t, "nodes to be done within, outside", true, func(m *impl.Model) { m.Actors[2].Inner.Todo = slices.Clone(m.Actors[0].Inner.Todo) })
	changedModel(t, "another entry of one Param", true, func(m *impl.Model) {
		m.Actors[0].Entry, m.Actors[0].Inner.Env = 0, envOf("z result", 5, 6)
	})
	changedModel(t, "another monitor's entry", true, func(m *impl.Model) {
		m.Actors[0].Monitor, m.Actors[0].Entry, m.Actors[0].Inner.Env = 0, 0, envOf("z result", 5, 6)
	})
}

func TestModelsWithAWrongInput(t *testing.T) {
	changedModel(t, "21 of Input", false, func(m *impl.Model) { m.Input = make([]int, 21) })
	changedModel(t, "very much Input", false, func(m *impl.Model) { m.Input = make([]int, 300000) })
	for _, n := range notValues {
		changedModel(t, fmt.Sprint("an Input with ", n), false, func(m *impl.Model) { m.Input = list(1, n) })
	}
}

func TestModelsWithListsTooLongOrShort(t *testing.T) {
	changedModel(t, "an actor less", false, func(m *impl.Model) { m.Actors = m.Actors[:2] })
	changedModel(t, "no actors", false, func(m *impl.Model) { m.Actors = nil })
	changedModel(t, "an actor more", false, func(m *impl.Model) { m.Actors = append(m.Actors, m.Actors[2]) })
	changedModel(t, "a gate less", false, func(m *impl.Model) { m.Gates = m.Gates[:1] })
	changedModel(t, "no gates", false, func(m *impl.Model) { m.Gates = nil })
	changedModel(t, "a gate more", false, func(m *impl.Model) { m.Gates = append(m.Gates, impl.GateNew(0)) })
	changedModel(t, "Vars less", false, func(m *impl.Model) { m.Vars = m.Vars[:1] })
	changedModel(t, "no Vars", false, func(m *impl.Model) { m.Vars = nil })
	changedModel(t, "Vars more", false, func(m *impl.Model) { m.Vars = append(m.Vars, impl.Env{}) })
	changedModel(t, "no program", false, func(m *impl.Model) { m.Program = impl.Program{} })
	modelOk(t, "nothing", impl.Model{}, false)
	stays(t, impl.Model{}, -1, 0, 1)
}

func TestModelsWithAWrongGate(t *testing.T) {
	for _, queues := range [][]int{nil, list(-1, -1), list(-1, 2)} {
		changedModel(t, "other queues", false, func(m *impl.Model) { m.Gates[1].Queues = queues })
	}
	changedModel(t, "a queue where none is", false, func(m *impl.Model) { m.Gates[0].Queues = list(-1) })
	changedModel(t, "gates exchanged", false, func(m *impl.Model) { m.Gates[0], m.Gates[1] = m.Gates[1], m.Gates[0] })
	for _, gate := range wrongGates() {
		if len(gate.Queues) == 1 {
			changedModel(t, "a wrong gate", false, func(m *impl.Model) { m.Gates[1] = gate })
		}
	}
}

// wrongNames are changes of an Env of two names or more, after which its Names are others.
var wrongNames = map[string]func(e *impl.Env){
	"a name less":     func(e *impl.Env) { e.Names, e.Vals = e.Names[1:], e.Vals[1:] },
	"no names":        func(e *impl.Env) { *e = impl.Env{} },
	"a name more":     func(e *impl.Env) { e.Names, e.Vals = append(e.Names, "more"), append(e.Vals, 0) },
	"another name":    func(e *impl.Env) { e.Names[1] = "other" },
	"names exchanged": func(e *impl.Env) { e.Names[0], e.Names[1] = e.Names[1], e.Names[0] },
	"a name twice":    func(e *impl.Env) { e.Names[1] = e.Names[0] },
	"a Val less":      func(e *impl.Env) { e.Vals = e.Vals[1:] },
	"a Val more":      func(e *impl.Env) { e.Vals = append(e.Vals, 0) },
	"no Val":          func(e *impl.Env) { e.Vals = nil },
	"a Val too high":  func(e *impl.Env) { e.Vals[1] = 1000001 },
	"a Val too low":   func(e *impl.Env) { e.Vals[0] = -1000001 },
}

func TestModelsWithAWrongEnv(t *testing.T) {
	for what, change := range wrongNames {
		changedModel(t, what+" in the Vars", false, func(m *impl.Model) { change(&m.Vars[1]) })
		changedModel(t, what+" outside", false, func(m *impl.Model) { change(&m.Actors[0].Outer.Env) })
		changedModel(t, what+" within", false, func(m *impl.Model) { change(&m.Actors[0].Inner.Env) })
		changedModel(t, what+" of one who waits", false, func(m *impl.Model) { change(&m.Actors[1].Inner.Env) })
	}
	changedModel(t, "a name where none is", false, func(m *impl.Model) { m.Vars[0] = envOf("n", 0) })
	changedModel(t, "a name outside where none is", false, func(m *impl.Model) { m.Actors[1].Outer.Env = envOf("v", 0) })
	changedModel(t, "Vars exchanged", false, func(m *impl.Model) { m.Vars[0], m.Vars[1] = m.Vars[1], m.Vars[0] })
	changedModel(t, "the monitor's Vars within", false, func(m *impl.Model) { m.Actors[0].Inner.Env = envOf("x result n k", 3, 0, 0, 5) })
}

// threadsOf are the threads of a model, by where they are.
func threadsOf(m *impl.Model) map[string]*impl.Thread {
	threads := map[string]*impl.Thread{}
	for i := range m.Actors {
		threads[fmt.Sprint("outside of ", i)] = &m.Actors[i].Outer
		threads[fmt.Sprint("within of ", i)] = &m.Actors[i].Inner
	}
	return threads
}

func TestModelsWithAWrongTodo(t *testing.T) {
	first := oneIn(t)
	for where := range threadsOf(&first) {
		for k, node := range first.Program.Nodes {
			// At the bottom, so that a call still comes.
			changedModel(t, fmt.Sprint("node ", k, " ", where), node.Kind > impl.NdNeg, func(m *impl.Model) {
				th := threadsOf(m)[where]
				th.Todo = append(list(k), th.Todo...)
			})
		}
		for _, k := range placesBeyond(len(first.Program.Nodes)) {
			changedModel(t, fmt.Sprint("no node ", where), false, func(m *impl.Model) {
				th := threadsOf(m)[where]
				th.Todo = append(list(k), th.Todo...)
			})
		}
		for _, size := range list(199, 200, 201, 202, 2000) {
			changedModel(t, fmt.Sprint(size, " ", where), size <= 200, func(m *impl.Model) {
				th := threadsOf(m)[where]
				call := placeOfNth(t, m.Program, impl.NdCall, 0)
				th.Todo = append(slices.Repeat(list(m.Program.Processes[0].Body), size-1), call)
			})
		}
	}
}

func TestModelsWithAWrongPlace(t *testing.T) {
	for _, place := range []struct{ monitor, entry int }{
		{-1, 0}, {-1, 1}, {0, -1}, {1, -1}, {-2, -1}, {-1, -2}, {-2, -2}, {2, 0}, {2, 1}, {1, 2}, {0, 1}, {math.MinInt, 0}, {math.MaxInt, 0}, {1, math.MaxInt}, {1, math.MinInt},
		// The entry's Param is another one there.
		{0, 0}, {1, 0},
	} {
		changedModel(t, fmt.Sprint("a process at ", place), false, func(m *impl.Model) {
			m.Actors[0].Monitor, m.Actors[0].Entry = place.monitor, place.entry
		})
		changedModel(t, fmt.Sprint("one who waits at ", place), false, func(m *impl.Model) {
			m.Actors[1].Monitor, m.Actors[1].Entry = place.monitor, place.entry
		})
		changedModel(t, fmt.Sprint("one outside at ", place), false, func(m *impl.Model) {
			m.Actors[2].Monitor, m.Actors[2].Entry = place.monitor, place.entry
		})
	}
	changedModel(t, "one who was inside", true, func(m *impl.Model) { m.Actors[0].Monitor, m.Actors[0].Entry = -1, -1 })
}

func TestModelsWithoutACall(t *testing.T) {
	first := oneIn(t)
	for k, node := range first.Program.Nodes {
		if node.Kind <= impl.NdNeg {
			continue
		}
		changedModel(t, fmt.Sprint("node ", k, " instead of a call"), node.Kind == impl.NdCall, func(m *impl.Model) {
			m.Actors[0].Outer.Todo = list(m.Actors[0].Outer.Todo[0], k)
		})
	}
	changedModel(t, "nothing behind a call", false, func(m *impl.Model) { m.Actors[0].Outer.Todo = nil })
	changedModel(t, "a call that comes later", false, func(m *impl.Model) { slices.Reverse(m.Actors[0].Outer.Todo) })
}

// modelRight is the chapter's rule told once more, sentence by sentence.
func modelRight(m impl.Model) bool {
	p := m.Program
	right := impl.Granted(p) && len(m.Input) < 21 && len(m.Actors) == len(p.Processes) && len(m.Gates) == len(p.Monitors) && len(m.Vars) == len(p.Monitors)
	for _, n := range m.Input {
		right = right && -1000000 <= n && n <= 1000000
	}
	for i := 0; right && i < len(p.Monitors); i++ {
		monitor := p.Monitors[i]
		right = gateRight(m.Gates[i]) && len(m.Gates[i].Queues) == len(monitor.Queues) && impl.EnvOk(m.Vars[i]) && slices.Equal(m.Vars[i].Names, monitor.Vars)
	}
	for i := 0; right && i < len(p.Processes); i++ {
		a := m.Actors[i]
		right = impl.EnvOk(a.Outer.Env) && slices.Equal(a.Outer.Env.Names, p.Processes[i].Vars) && len(a.Outer.Todo) <= 200 && len(a.Inner.Todo) <= 200
		for _, k := range slices.Concat(a.Outer.Todo, a.Inner.Todo) {
			right = right && 0 <= k && k < len(p.Nodes) && p.Nodes[k].Kind > impl.NdNeg
		}
		right = right && placeRight(p, a)
	}
	return right
}

func placeRight(p impl.Program, a impl.Actor) bool {
	if a.Monitor == -1 || a.Entry == -1 {
		return a.Monitor == a.Entry
	}
	if a.Monitor < 0 || a.Monitor >= len(p.Monitors) || a.Entry < 0 || a.Entry >= len(p.Monitors[a.Monitor].Entries) || len(a.Outer.Todo) == 0 {
		return false
	}
	param := p.Monitors[a.Monitor].Entries[a.Entry].Param
	comes := p.Nodes[a.Outer.Todo[len(a.Outer.Todo)-1]]
	return impl.EnvOk(a.Inner.Env) && slices.Equal(a.Inner.Env.Names, []string{param, "result"}) && comes.Kind == impl.NdCall
}

// otherwise are values that a part of a model could have instead of its own.
func otherwise(part reflect.Value) []reflect.Value {
	values := []reflect.Value{}
	switch part.Kind() {
	case reflect.Int:
		for _, n := range list(-2, -1, 0, 1, 2, 3, 4, int(part.Int())+1, 1000001) {
			values = append(values, reflect.ValueOf(n))
		}
	case reflect.Bool:
		values = append(values, reflect.ValueOf(!part.Bool()))
	case reflect.String:
		for _, name := range []string{"", "n", "x", "z", "v", "result", "end"} {
			values = append(values, reflect.ValueOf(name))
		}
	case reflect.Slice:
		values = append(values, reflect.Zero(part.Type()))
		if size := part.Len(); size > 0 {
			values = append(values, part.Slice3(0, size-1, size-1), reflect.AppendSlice(reflect.Zero(part.Type()), part.Slice(size-1, size)))
			values = append(values, reflect.Append(part.Slice3(0, size, size), part.Index(size-1)))
		}
	}
	return values
}

// Each part of a model is once another one. What is right then goes on or stays, and nothing else happens; what isn't stays as it is.
func TestModelsWithEachPartAnotherOne(t *testing.T) {
	right, wrong, went := 0, 0, 0
	for _, start := range []impl.Model{oneIn(t), gone(t, roomWith(t, "delay q"), 0, 0, 1), gone(t, modelFrom(t, theInn), 0, 0, 1, 2)} {
		m := deepCopy(start)
		parts := []reflect.Value{}
		eachPart(reflect.ValueOf(&m).Elem(), func(part reflect.Value) { parts = append(parts, part) })
		for _, part := range parts {
			was := reflect.New(part.Type()).Elem()
			was.Set(part)
			for _, value := range otherwise(part) {
				part.Set(value)
				isRight := modelRight(m)
				modelOk(t, "another part", m, isRight)
				right, wrong = right+truth(isRight), wrong+truth(!isRight)
				for process := range m.Actors {
					if isRight || process == 0 {
						went += truth(goesOnOrStays(t, m, process, isRight))
					}
				}
			}
			part.Set(was)
		}
		modelIs(t, "the model at the end", m, start)
	}
	if right < 100 || wrong < 1000 || went < 100 {
		t.Errorf("%d are right, %d are wrong, %d went on", right, wrong, went)
	}
}

// goesOnOrStays asks that a process tells one event, or that the model is as it was; it tells which.
func goesOnOrStays(t *testing.T, m impl.Model, process int, isRight bool) bool {
	t.Helper()
	next, ok := impl.ModelGo(m, process)
	mayGo := isRight && !m.Stopped && m.Actors[process].Ready
	if !ok {
		modelIs(t, "a model that stays", next, m)
		return false
	}
	if !mayGo || len(next.Events) != len(m.Events)+1 || next.Events[len(m.Events)].Process != process {
		t.Errorf("process %d goes on with %.300q in %.2000s", process, fmt.Sprint(next.Events), modelTold(m))
	}
	return true
}
