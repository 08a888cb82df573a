package tests

import (
	"fmt"
	"slices"
	"strings"
	"testing"

	"loop.example/g00290/impl"
)

// doer does a body as a whole, statement within statement, and notes each act; a thread does the same in steps.
type doer struct {
	p     impl.Program
	env   impl.Env
	notes []string
	steps int
	fault int
}

// mostSteps is where a body that goes on for ever is left.
const mostSteps = 1500

func actNote(kind, value, fault int, e impl.Env) string {
	return fmt.Sprint(kind, " of ", value, " ", fault, " with ", envTold(e))
}

// value is that of a node; false when it has a fault, which is the end.
func (d *doer) value(k int) (int, bool) {
	n, fault := impl.ValueOf(d.p, k, d.env)
	if fault != 0 {
		d.fault = fault
	}
	return n, fault == 0
}

// do is false when nothing goes on behind it.
func (d *doer) do(k int) bool {
	node := d.p.Nodes[k]
	switch node.Kind {
	case impl.NdPrint, impl.NdCall:
		n, fault := impl.ValueOf(d.p, node.Kids[0], d.env)
		d.notes = append(d.notes, actNote(node.Kind, n, fault, d.env))
		return true
	case impl.NdRead, impl.NdDelay, impl.NdCont:
		d.notes = append(d.notes, actNote(node.Kind, 0, impl.FaultWord, d.env))
		return true
	}
	d.steps++
	if d.steps > mostSteps {
		return false
	}
	switch node.Kind {
	case impl.NdSet:
		n, ok := d.value(node.Kids[0])
		if !ok {
			return false
		}
		for i, name := range d.env.Names {
			if name == node.Name {
				d.env.Vals[i] = n
			}
		}
	case impl.NdIf:
		n, ok := d.value(node.Kids[0])
		switch {
		case !ok:
			return false
		case n != 0:
			return d.do(node.Kids[1])
		case len(node.Kids) == 3:
			return d.do(node.Kids[2])
		}
	case impl.NdWhile:
		n, ok := d.value(node.Kids[0])
		for ok && n != 0 {
			if !d.do(node.Kids[1]) {
				return false
			}
			d.steps++
			if d.steps > mostSteps {
				return false
			}
			n, ok = d.value(node.Kids[0])
		}
		return ok
	case impl.NdBlock:
		for _, kid := range node.Kids {
			if !d.do(kid) {
				return false
			}
		}
	}
	return true
}

// sown grows bodies that turn out otherwise with each seed.
type sown struct {
	grower
	turn int
}

func (s *sown) pick(count int) int {
	s.turn = (s.turn*1103515245 + 12345) & 0x7fffffff
	return (s.turn >> 8) % count
}

var sownNames = []string{"v", "w", "x", "none"}

func (s *sown) value(deep int) int {
	if deep == 1 || s.pick(3) == 0 {
		if s.pick(2) == 0 {
			return s.add(impl.Node{Kind: impl.NdNum, Num: s.pick(4)})
		}
		return s.add(impl.Node{Kind: impl.NdVar, Name: sownNames[s.pick(len(sownNames))]})
	}
	switch s.pick(6) {
	case 0:
		return s.add(impl.Node{Kind: impl.NdNot, Kids: []int{s.value(deep - 1)}})
	case 1:
		return s.add(impl.Node{Kind: impl.NdNeg, Kids: []int{s.value(deep - 1)}})
	}
	left := s.value(deep - 1)
	return s.add(impl.Node{Kind: impl.NdCalc, Num: operations[s.pick(9)], Kids: []int{left, s.value(deep - 1)}})
}

func (s *sown) block(deep int) int {
	kids := []int{}
	for range 1 + s.pick(4) {
		kids = append(kids, s.statement(deep))
	}
	return s.add(impl.Node{Kind: impl.NdBlock, Kids: kids})
}

// countdown is a loop that counts a name down, so that most loops have an end.
func (s *sown) countdown(deep int) int {
	name := sownNames[s.pick(3)]
	value, statement := s.add(impl.Node{Kind: impl.NdVar, Name: name}), s.statement(deep-1)
	of, one := s.add(impl.Node{Kind: impl.NdVar, Name: name}), s.add(impl.Node{Kind: impl.NdNum, Num: 1})
	less := s.add(impl.Node{Kind: impl.NdCalc, Num: impl.OpSub, Kids: []int{of, one}})
	set := s.add(impl.Node{Kind: impl.NdSet, Name: name, Kids: []int{less}})
	return s.add(impl.Node{Kind: impl.NdWhile, Kids: []int{value, s.add(impl.Node{Kind: impl.NdBlock, Kids: []int{statement, set}})}})
}

func (s *sown) statement(deep int) int {
	kinds := 8
	if deep > 1 {
		kinds = 12
	}
	switch s.pick(kinds) {
	case 0:
		return s.add(impl.Node{Kind: impl.NdSkip})
	case 1:
		return s.add(impl.Node{Kind: impl.NdPrint, Kids: []int{s.value(2)}})
	case 2:
		return s.add(impl.Node{Kind: impl.NdCall, Name: "m", More: "e", Kids: []int{s.value(2)}})
	case 3:
		return s.add(plainNode([]int{impl.NdRead, impl.NdDelay, impl.NdCont}[s.pick(3)]))
	case 8:
		value := s.value(3)
		return s.add(impl.Node{Kind: impl.NdIf, Kids: []int{value, s.block(deep - 1)}})
	case 9:
		value, then := s.value(3), s.block(deep-1)
		return s.add(impl.Node{Kind: impl.NdIf, Kids: []int{value, then, s.block(deep - 1)}})
	case 10:
		return s.countdown(deep)
	case 11:
		value := s.value(3)
		return s.add(impl.Node{Kind: impl.NdWhile, Kids: []int{value, s.block(deep - 1)}})
	}
	return s.add(impl.Node{Kind: impl.NdSet, Name: sownNames[s.pick(len(sownNames))], Kids: []int{s.value(3)}})
}

// sownBody is a program whose last node is a body.
func sownBody(seed int) impl.Program {
	s := sown{turn: seed}
	s.block(3)
	return s.p
}

// steppedNotes are the acts of a thread, and what it is at its end; how many steps that takes is asked of RunThread.
func steppedNotes(t *testing.T, p impl.Program, th impl.Thread, steps int) ([]string, impl.Thread) {
	t.Helper()
	notes := []string{}
	for {
		taken := 0
		for impl.StateOf(p, th) == impl.StRun {
			next := impl.StepThread(p, th)
			if taken == 0 {
				all, _ := impl.RunThread(p, th, 1)
				threadIs(t, "RunThread by 1", all, next)
			}
			th = next
			taken++
		}
		steps -= taken
		if impl.StateOf(p, th) != impl.StAct {
			if steps != 0 {
				t.Errorf("%d steps are left of %s", steps, threadTold(th))
			}
			return notes, th
		}
		n, fault := impl.ValueAt(p, th)
		notes = append(notes, actNote(p.Nodes[th.Todo[len(th.Todo)-1]].Kind, n, fault, th.Env))
		th = impl.Past(th)
	}
}

// A thread does one statement after the other: as many, and the same acts in the same order, as when the body is done as a whole.
func TestThreadsDoOneStatementAfterTheOther(t *testing.T) {
	ended, withFaults, acts := 0, 0, 0
	for seed := range 3000 {
		p := sownBody(seed)
		body := len(p.Nodes) - 1
		d := doer{p: p, env: envOf("v w x", 0, 0, 0)}
		d.do(body)
		if d.steps > mostSteps {
			continue
		}
		ended++
		notes, th := steppedNotes(t, p, impl.ThreadNew(p, body, []string{"v", "w", "x"}), d.steps)
		if !slices.Equal(notes, d.notes) || !sameEnv(th.Env, d.env) || th.Fault != d.fault || (d.fault == 0) != (len(th.Todo) == 0) {
			t.Fatalf("seed %d: %s, %.3000v; want %s, fault %d, %.3000v", seed, threadTold(th), notes, envTold(d.env), d.fault, d.notes)
		}
		acts += len(notes)
		withFaults += truth(d.fault != 0)
	}
	if ended < 1000 || withFaults < 100 || ended-withFaults < 100 || acts < 1000 {
		t.Errorf("of 3000 bodies %d end, %d with a fault, with %d acts", ended, withFaults, acts)
	}
}

// stepOf is a step as the chapter tells it, on lists.
func stepOf(p impl.Program, th impl.Thread) impl.Thread {
	last := len(th.Todo) - 1
	if th.Fault != 0 || last < 0 {
		return th
	}
	k := th.Todo[last]
	if k < 0 || k >= len(p.Nodes) {
		return withFault(th, impl.FaultWord)
	}
	node := p.Nodes[k]
	if slices.Contains([]int{impl.NdCall, impl.NdPrint, impl.NdRead, impl.NdDelay, impl.NdCont}, node.Kind) {
		return th
	}
	if !impl.NodeOk(p, k) || node.Kind <= impl.NdNeg {
		return withFault(th, impl.FaultWord)
	}
	n, fault := 0, 0
	if node.Kind == impl.NdSet || node.Kind == impl.NdIf || node.Kind == impl.NdWhile {
		n, fault = impl.ValueOf(p, node.Kids[0], th.Env)
	}
	if fault != 0 {
		return withFault(th, fault)
	}
	next := impl.Thread{Todo: slices.Clone(th.Todo[:last]), Env: th.Env}
	switch {
	case node.Kind == impl.NdSet:
		next.Env = impl.PutIn(th.Env, node.Name, n)
	case node.Kind == impl.NdIf && n != 0:
		next.Todo = append(next.Todo, node.Kids[1])
	case node.Kind == impl.NdIf && len(node.Kids) == 3:
		next.Todo = append(next.Todo, node.Kids[2])
	case node.Kind == impl.NdWhile && n != 0:
		next.Todo = append(next.Todo, k, node.Kids[1])
	case node.Kind == impl.NdBlock:
		backwards := slices.Clone(node.Kids)
		slices.Reverse(backwards)
		next.Todo = append(next.Todo, backwards...)
	}
	if len(next.Todo) > 200 {
		next.Fault = impl.FaultWord
	}
	return next
}

// someThreads are threads of each node and of none, few and many, with each of these Envs.
func someThreads(p impl.Program, envs ...impl.Env) []impl.Thread {
	threads := []impl.Thread{{}}
	for _, e := range envs {
		threads = append(threads, threadOf(e), withFault(threadOf(e, 0), impl.FaultZero), withFault(threadOf(e), -1))
		for k := -1; k <= len(p.Nodes); k++ {
			threads = append(threads, threadOf(e, k), threadOf(e, len(p.Nodes)-1, k), threadOf(e, 0, -1, k), threadOf(e, upTo(199, k)...), threadOf(e, upTo(200, k)...), threadOf(e, upTo(203, k)...), withFault(threadOf(e, k), impl.FaultQueue))
		}
	}
	return threads
}

func TestStepsOfEachThread(t *testing.T) {
	programs := append(askedPrograms(t), chain(13), loopsWithin(3), impl.Program{}, withKids([]int{-1}, nil, []int{5, 5}))
	for seed := range 20 {
		programs = append(programs, sownBody(seed))
	}
	for _, p := range programs {
		for _, th := range someThreads(p, impl.Env{}, envOf("v r x u", 1, 2, 3, 0), envOf("v v r", 0), envOf("r", 0, 7)) {
			stepsTo(t, p, th, stepOf(p, th))
		}
	}
}

// Threads over trees of which one node is another one.
func TestStepsOfTreesThatAreNotRight(t *testing.T) {
	for seed := range 60 {
		p := sownBody(seed)
		for k := range p.Nodes {
			was := p.Nodes[k]
			for i, node := range []impl.Node{{}, {Kind: impl.NdSkip}, {Kind: impl.NdNum, Num: -1}, {Kind: impl.NdBlock}, {Kind: was.Kind, Kids: []int{k}}, {Kind: impl.NdWhile, Kids: was.Kids}, {Kind: impl.NdSet, Name: "v", Kids: []int{k - 1}}, {Kind: was.Kind, Kids: []int{len(p.Nodes)}}} {
				p.Nodes[k] = node
				e := envOf("v w x", 1, i, -1)
				for _, body := range []int{k, len(p.Nodes) - 1} {
					th := threadOf(e, body)
					for range 12 {
						stepsTo(t, p, th, stepOf(p, th))
						th = impl.StepThread(p, th)
					}
				}
			}
			p.Nodes[k] = was
		}
	}
}

// What RunThread tells is what as many steps tell.
func TestRunsAreSteps(t *testing.T) {
	for seed := range 150 {
		p := sownBody(seed * 7)
		th := impl.ThreadNew(p, len(p.Nodes)-1, []string{"v", "w", "x"})
		want := th
		for fuel := range 60 {
			runsTo(t, p, th, fuel, want, impl.StateOf(p, want) != impl.StRun)
			if fuel%7 == 0 {
				runsTo(t, p, want, 0, want, impl.StateOf(p, want) != impl.StRun)
			}
			want = impl.StepThread(p, want)
		}
		half, _ := impl.RunThread(p, th, 1000)
		whole, end := impl.RunThread(p, th, 2000)
		runsTo(t, p, half, 1000, whole, end)
	}
}

// threadWithRoom has room behind all its lists.
func threadWithRoom(th impl.Thread) impl.Thread {
	return impl.Thread{Todo: withRoom(th.Todo, 77), Env: envWithRoom(th.Env), Fault: th.Fault}
}

func threadIsLeft(t *testing.T, what string, th, was impl.Thread) {
	t.Helper()
	if !sameThread(th, was) || behindEnd(th.Todo) != 77 {
		t.Errorf("%s changed %.500s to %.500s", what, threadTold(was), threadTold(th))
	}
	envIsLeft(t, what, th.Env, was.Env)
}

// threadAnswers are all functions that answer a thread, of this one.
func threadAnswers(p impl.Program, th impl.Thread) map[string]func() impl.Thread {
	return map[string]func() impl.Thread{
		"StepThread": func() impl.Thread { return impl.StepThread(p, th) },
		"Past":       func() impl.Thread { return impl.Past(th) },
		"RunThread by 0": func() impl.Thread {
			same, _ := impl.RunThread(p, th, 0)
			return same
		},
		"RunThread": func() impl.Thread {
			far, _ := impl.RunThread(p, th, 9)
			return far
		},
	}
}

func TestThreadsAreLeftAsTheyWere(t *testing.T) {
	for _, fresh := range append(askedPrograms(t), sownBody(3), sownBody(4), loopsWithin(2), impl.Program{}) {
		p := roomy(fresh)
		for _, was := range someThreads(p, impl.Env{}, envOf("v r x u", 1, 2, 3, 0), envOf("r", 0, 7), envOf("r x", 4)) {
			th := threadWithRoom(was)
			impl.StateOf(p, th)
			impl.ValueAt(p, th)
			threadIsLeft(t, "StateOf or ValueAt", th, was)
			for what, ask := range threadAnswers(p, th) {
				ask()
				threadIsLeft(t, what, th, was)
			}
		}
		if told(p) != told(fresh) || !roomIsLeft(p) {
			t.Errorf("a program was changed: %.2000s", told(p))
		}
	}
	given := withRoom([]string{"v", "w"}, "room")
	impl.ThreadNew(smallest(), 0, given)
	if !slices.Equal(given, []string{"v", "w"}) || behindEnd(given) != "room" {
		t.Errorf("ThreadNew changed its names to %v", given[:3])
	}
}

// spoilThread writes into all that an answer has, and the room behind it.
func spoilThread(th impl.Thread) {
	for i := range th.Todo[:cap(th.Todo)] {
		th.Todo[:cap(th.Todo)][i] = -9
	}
	spoil(th.Env)
}

func TestThreadsAreNewMemory(t *testing.T) {
	for _, fresh := range append(askedPrograms(t)[2:], sownBody(3), loopsWithin(2)) {
		p := roomy(fresh)
		for _, was := range someThreads(p, impl.Env{}, envOf("v r x u", 1, 2, 3, 0)) {
			th := threadWithRoom(was)
			for what, ask := range threadAnswers(p, th) {
				first, second := ask(), ask()
				want := threadTold(second)
				spoilThread(first)
				if threadTold(second) != want || threadTold(ask()) != want {
					t.Errorf("%s of %.500s shares its answer", what, threadTold(th))
				}
				threadIsLeft(t, what, th, was)
			}
		}
		if told(p) != told(fresh) || !roomIsLeft(p) {
			t.Errorf("an answer shares memory with a program: %.2000s", told(p))
		}
	}
	given := []string{"v", "w"}
	first, second := impl.ThreadNew(smallest(), 3, given), impl.ThreadNew(smallest(), 3, given)
	spoilThread(first)
	threadIs(t, "ThreadNew", second, threadOf(envOf("v w", 0, 0), 3))
	if !slices.Equal(given, []string{"v", "w"}) {
		t.Errorf("ThreadNew shares its names: %v", given)
	}
}

// However long the lists are, each call ends.
func TestLongThreads(t *testing.T) {
	p, k := oneOf(t, "v := v + 1")
	long := threadOf(envOf("v", 1), slices.Repeat([]int{k}, 300000)...)
	got, end := impl.RunThread(p, long, 2000)
	if !end || got.Fault != impl.FaultWord || len(got.Todo) != 299999 || impl.GetIn(got.Env, "v") != 2 {
		t.Errorf("a long Todo: %v, fault %d, %d are left", end, got.Fault, len(got.Todo))
	}
	if past := impl.Past(long); len(past.Todo) != 299999 || impl.StateOf(p, past) != impl.StRun {
		t.Errorf("Past of a long Todo has %d", len(past.Todo))
	}
	valueAtIs(t, p, long, outcome{2, 0})
	p, th := bodyOf(t, "", "while 1 do begin v := v + 1 end")
	th.Env = impl.Env{Names: append(strings.Split(strings.Repeat("a ", 20000), " "), "v"), Vals: make([]int, 20002)}
	got, end = impl.RunThread(p, th, 2000)
	if end || impl.GetIn(got.Env, "v") != 666 {
		t.Errorf("a long Env: %v, %d", end, impl.GetIn(got.Env, "v"))
	}
	g := grower{}
	for range 20000 {
		g.number(1)
	}
	value, skip := g.number(1), g.add(impl.Node{Kind: impl.NdSkip})
	loop := g.add(impl.Node{Kind: impl.NdWhile, Kids: []int{value.place, g.add(impl.Node{Kind: impl.NdBlock, Kids: []int{skip}})}})
	runsTo(t, g.p, threadOf(impl.Env{}, loop), 1<<40, threadOf(impl.Env{}, loop, skip), false)
}
