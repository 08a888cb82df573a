package tests

import (
	"slices"
	"testing"

	"loop.example/g00290/impl"
)

// crew is a program whose words are run, each process on a core of its own; what is asked of a kernel is done here, as it is meant.
type crew struct {
	t       *testing.T
	p       impl.Program
	text    []int
	mem     []int
	cores   []impl.Core
	gates   []impl.Gate
	rests   []bool
	input   []int
	events  []impl.Event
	stopped bool
	// touched counts words that touch the lock, what is a process's own, and what is shared.
	touched [3]int
}

// crewOf is false when the words are too many for a text.
func crewOf(t *testing.T, p impl.Program, input []int) (*crew, bool) {
	t.Helper()
	c, g := &crew{t: t, p: p, input: input, mem: list(0)}, impl.Gen{}
	for i, process := range p.Processes {
		c.cores = append(c.cores, coreOf(impl.CountOf(g.Lines), i, make([]int, 8)...))
		c.rests = append(c.rests, false)
		g = impl.GenBlock(p, g, i, process.Body, impl.OwnPlaces(p, i), -1, "")
		g.Lines = append(g.Lines, plain(impl.InSys, impl.SysDone, 0, 0))
	}
	if g.Bad {
		t.Fatalf("a program that is granted has no words: %.2000s", told(p))
	}
	if len(g.Lines) > 900 {
		return nil, false
	}
	text, ok := impl.Assemble(g.Lines)
	if !ok {
		t.Fatalf("a program has no text: %.2000s", codeTold(g.Lines))
	}
	c.text, c.mem = text, append(c.mem, make([]int, len(allPlaces(p)))...)
	for _, monitor := range p.Monitors {
		c.gates = append(c.gates, impl.GateNew(len(monitor.Queues)))
	}
	return c, true
}

// mayTouch tells, by where names are, whether a process may touch a place now.
func (c *crew) mayTouch(process, at int) bool {
	if at == impl.ArgAt(c.p, process) || at == impl.ResultAt(c.p, process) || slices.Contains(impl.OwnPlaces(c.p, process).Ats, at) {
		c.touched[1]++
		return true
	}
	for m, monitor := range c.p.Monitors {
		for i := range monitor.Vars {
			if at == impl.SharedAt(c.p, m, i) && c.gates[m].Owner == process {
				c.touched[2]++
				return true
			}
		}
	}
	return false
}

// watch asks that the word at this place touch nothing but what it may, and the lock by a test alone.
func (c *crew) watch(process, pc int) {
	c.t.Helper()
	at := impl.TouchOf(c.text, pc)
	if at < 0 {
		return
	}
	x, _ := insAt(c.text, pc)
	if at == 0 && x.Op == impl.InTest {
		c.touched[0]++
		return
	}
	if x.Op == impl.InTest || !c.mayTouch(process, at) {
		c.t.Fatalf("behind %q: process %d touches %d by %v, in %.2000s", eventsTold(c.events), process, at, x, told(c.p))
	}
}

func (c *crew) tell(process, kind, num int) {
	c.events = append(c.events, impl.Event{Process: process, Kind: kind, Num: num})
	c.stopped = kind == impl.EvFault
}

// canGo tells whether a process is neither over nor waits.
func (c *crew) canGo(process int) bool { return !c.stopped && !c.rests[process] }

// step does one word of a process that can go.
func (c *crew) step(process int) {
	c.t.Helper()
	core := c.cores[process]
	c.watch(process, core.Pc)
	s := step(core, c.text, c.mem)
	c.cores[process], c.mem = s.Core, s.Mem
	switch s.Code {
	case goesOn:
	case asks:
		x, _ := insAt(c.text, core.Pc)
		c.ask(process, x.A, x.C)
	default:
		c.tell(process, impl.EvFault, s.Code)
	}
}

func (c *crew) ask(process, call, of int) {
	c.t.Helper()
	switch call {
	case impl.SysPrint:
		c.tell(process, impl.EvPrint, c.cores[process].Regs[0])
	case impl.SysRead:
		c.cores[process].Regs[0] = 0
		if len(c.input) > 0 {
			c.cores[process].Regs[0], c.input = c.input[0], c.input[1:]
		}
		c.tell(process, impl.EvRead, c.cores[process].Regs[0])
	case impl.SysDone:
		c.rests[process] = true
		c.tell(process, impl.EvDone, 0)
	default:
		if c.mem[0] == 0 {
			c.t.Fatalf("process %d is at a gate without the lock, behind %q", process, eventsTold(c.events))
		}
		c.pass(process, call, of)
		c.mem[0] = 0
	}
}

// pass is what is done at a gate; only its owner may do anything else than enter.
func (c *crew) pass(process, call, of int) {
	c.t.Helper()
	m := of
	if call > impl.SysLeave {
		m = of / 2
	}
	gate, who, ok := &c.gates[m], -1, true
	if call != impl.SysEnter && gate.Owner != process {
		c.t.Fatalf("process %d asks for %d at a gate that is not its own, behind %q", process, call, eventsTold(c.events))
	}
	switch call {
	case impl.SysEnter:
		*gate, ok = impl.Arrive(*gate, process)
		c.rests[process] = !ok
	case impl.SysLeave:
		*gate, who = impl.Leave(*gate)
	case impl.SysDelay:
		*gate, who, ok = impl.DelayIn(*gate, of%2)
		if !ok {
			c.tell(process, impl.EvFault, impl.FaultQueue)
			return
		}
		c.rests[process] = true
	case impl.SysCont:
		*gate, who = impl.ContinueAt(*gate, of%2)
	}
	if who >= 0 {
		c.rests[who] = false
	}
	c.tell(process, call, m)
}

// comesTo lets a process go on to its next event; false when that is far.
func (c *crew) comesTo(process int) bool {
	c.t.Helper()
	for events, steps := len(c.events), 0; len(c.events) == events; steps++ {
		if steps > 200000 {
			return false
		}
		c.step(process)
	}
	return true
}

// agrees asks that all events be the model's, and the Vars of monitors that nobody is in.
func (c *crew) agrees(m impl.Model) {
	c.t.Helper()
	if !slices.Equal(c.events, m.Events) || c.stopped != m.Stopped {
		c.t.Fatalf("the events are %q, want %q, of %.2000s", eventsTold(c.events), eventsTold(m.Events), told(c.p))
	}
	for i, gate := range c.gates {
		gateIs(c.t, "a gate", gate, m.Gates[i])
		for j, n := range m.Vars[i].Vals {
			if gate.Owner < 0 && c.mem[impl.SharedAt(c.p, i, j)] != n {
				c.t.Fatalf("behind %q: Var %d of monitor %d is %d, want %d", eventsTold(c.events), j, i, c.mem[impl.SharedAt(c.p, i, j)], n)
			}
		}
	}
}

// sail runs words event by event, and holds them against the model; it tells whether they were.
func sail(t *testing.T, a *author, p impl.Program, input []int, kinds map[int]int) bool {
	t.Helper()
	m, ok := impl.ModelNew(p, input)
	c, fits := crewOf(t, p, input)
	if !ok || !fits {
		return false
	}
	for idle := 0; len(m.Events) < 80 && idle < 12; {
		process := a.pick(len(p.Processes))
		next, went := impl.ModelGo(m, process)
		able := slices.Contains(impl.Able(m), process)
		if able != c.canGo(process) {
			t.Fatalf("behind %q: process %d goes on: %v", eventsTold(m.Events), process, able)
		}
		if able && !went {
			// It goes on for too long to be followed.
			break
		}
		idle += truth(!went)
		if went {
			if !c.comesTo(process) {
				t.Fatalf("behind %q: process %d comes to no event", eventsTold(m.Events), process)
			}
			m = next
			c.agrees(m)
			kinds[m.Events[len(m.Events)-1].Kind]++
		}
	}
	return true
}

// Words of blocks do what is meant, event by event, and touch their own places alone.
func TestWordsOfBlocksAreRun(t *testing.T) {
	kinds, ran := map[int]int{}, 0
	for seed := range 700 {
		a := &author{sown{turn: seed * 13}}
		p, fault := impl.ReadProgram(a.text())
		if fault == 0 {
			ran += truth(sail(t, a, p, listsOver(list(3, -1), 3)[a.pick(15)], kinds))
		}
	}
	for _, text := range []string{theInn, theShelf + ".", theShelf + "process c uses s ; var v ; begin call s . get ( 0 ) to v ; print v end ; ."} {
		for seed := range 50 {
			ran += truth(sail(t, &author{sown{turn: seed}}, readFrom(t, text), nil, kinds))
		}
	}
	for kind := impl.EvEnter; kind <= impl.EvFault; kind++ {
		if kinds[kind] < 50 {
			t.Errorf("%d events of kind %d", kinds[kind], kind)
		}
	}
	if ran < 400 {
		t.Errorf("%d programs were run", ran)
	}
}

// follows asks that each event be what the model tells, when the same processes go on; false when one goes on for too long.
func (c *crew) follows(input []int) bool {
	c.t.Helper()
	m, _ := impl.ModelNew(c.p, input)
	for i, event := range c.events {
		next, went := impl.ModelGo(m, event.Process)
		if !went && slices.Contains(impl.Able(m), event.Process) {
			return false
		}
		if !went || next.Events[i] != event {
			c.t.Fatalf("%d of %q is not meant in %.2000s", i, eventsTold(c.events), told(c.p))
		}
		m = next
	}
	resting := !slices.ContainsFunc(list(0, 1, 2, 3)[:len(c.p.Processes)], c.canGo)
	if c.stopped != m.Stopped || resting != (len(impl.Able(m)) == 0) {
		c.t.Fatalf("behind %q stands %v, and %v can go on", eventsTold(c.events), impl.VerdictOf(m), !resting)
	}
	return true
}

// Whichever core goes on, word by word, the events are meant in the order in which they come, and nobody touches what is not theirs.
func TestWordsOfBlocksAreRunInAnyOrder(t *testing.T) {
	followed, touched, kinds := 0, [3]int{}, map[int]int{}
	for seed := range 1000 {
		a := &author{sown{turn: seed * 29}}
		text := []string{theInn, theShelf + ".", a.text()}[max(seed%10, 7)-7]
		p, fault := impl.ReadProgram(text)
		if fault != 0 {
			continue
		}
		input := list(3, -1)
		c, fits := crewOf(t, p, input)
		if !fits {
			continue
		}
		for steps, process := 0, 0; steps < 2500 && len(c.events) < 60; steps++ {
			// One goes on for some words, or for a single one.
			if seed%3 == 0 || a.pick(5) == 0 {
				process = a.pick(len(p.Processes))
			}
			if c.canGo(process) {
				c.step(process)
			} else {
				process = a.pick(len(p.Processes))
			}
		}
		followed += truth(c.follows(input))
		for _, event := range c.events {
			kinds[event.Kind]++
		}
		for i, n := range c.touched {
			touched[i] += n
		}
	}
	if followed < 300 || slices.Min(touched[:]) < 5000 {
		t.Errorf("%d programs were followed, the touches are %v", followed, touched)
	}
	for kind := impl.EvEnter; kind <= impl.EvFault; kind++ {
		if kinds[kind] < 20 {
			t.Errorf("%d events of kind %d", kinds[kind], kind)
		}
	}
}

// Each place that the words of a block name is its own: those of its names, those of its calls, and within a call those of the monitor.
func TestBlocksNameTheirOwnPlacesAlone(t *testing.T) {
	named := 0
	for seed := range 300 {
		a := &author{sown{turn: seed * 7}}
		p, fault := impl.ReadProgram(a.text())
		if fault != 0 {
			continue
		}
		for i, process := range p.Processes {
			mine := append(slices.Clone(impl.OwnPlaces(p, i).Ats), impl.ArgAt(p, i), impl.ResultAt(p, i))
			of := impl.GenBlock(p, impl.Gen{}, i, process.Body, impl.OwnPlaces(p, i), -1, "")
			in := -1
			for _, l := range of.Lines {
				at := l.Ins.C
				switch {
				case l.Ins.Op == impl.InSys && l.Ins.A == impl.SysEnter:
					in = at
				case l.Ins.Op == impl.InSys && l.Ins.A == impl.SysLeave:
					in = -1
				case l.Ins.Op == impl.InTest && (at != 0 || l.Ins.A != 7):
					t.Fatalf("%v is no test of the lock", l.Ins)
				case l.Ins.Op == impl.InLoad || l.Ins.Op == impl.InStore:
					named++
					if !slices.Contains(mine, at) && (in < 0 || !isVarOf(p, in, at)) {
						t.Fatalf("process %d, in %d, names %d in %s of %.2000s", i, in, at, codeTold(of.Lines), told(p))
					}
				}
			}
			if !impl.LinesOk(of.Lines) && len(of.Lines) <= 900 {
				t.Fatalf("lines are not right: %s", codeTold(of.Lines))
			}
		}
	}
	if named < 2000 {
		t.Errorf("%d places were named", named)
	}
}

// isVarOf tells whether a place is that of a Var of this monitor.
func isVarOf(p impl.Program, m, at int) bool {
	for i := range p.Monitors[m].Vars {
		if impl.SharedAt(p, m, i) == at {
			return true
		}
	}
	return false
}
