package tests

import (
	"fmt"
	"iter"
	"maps"
	"slices"
	"strings"
	"testing"

	"loop.example/g00290/impl"
)

// game is a program that is played: each process goes through its body as a whole, statement within statement and call within body, in a routine of its own, which rests at each event.
type game struct {
	p       impl.Program
	halls   []*hall
	shared  []map[string]int
	input   []int
	events  []impl.Event
	players []*player
	stopped bool
}

// player is the routine of one process.
type player struct {
	*game
	at int
	// own are its Vars, inner are the Param and the result of the entry in which it is.
	own, inner     map[string]int
	monitor, entry int
	// to is where what comes out of the call goes.
	to          string
	ready, over bool
	// lost is set when it goes on for too long without an event.
	lost  bool
	steps int
	yield func(impl.Event) bool
	next  func() (impl.Event, bool)
	stop  func()
}

// A way is how a statement ends: others may follow, the entry is left by a continue, or nothing follows any more.
const (
	wayOn = iota
	wayOut
	wayGone
)

func gameOf(p impl.Program, input []int) *game {
	g := &game{p: p, input: input}
	for _, monitor := range p.Monitors {
		g.halls = append(g.halls, hallOf(impl.GateNew(len(monitor.Queues))))
		g.shared = append(g.shared, map[string]int{})
	}
	for i := range p.Processes {
		one := &player{game: g, at: i, own: map[string]int{}, monitor: -1, entry: -1, ready: true}
		one.next, one.stop = iter.Pull(one.play)
		g.players = append(g.players, one)
	}
	return g
}

// end lets all routines go.
func (g *game) end() {
	for _, one := range g.players {
		one.stop()
	}
}

// pick lets a process go on; it is false when it comes to no event.
func (g *game) pick(process int) bool {
	one := g.players[process]
	if g.stopped || one.lost || !one.ready {
		return false
	}
	own, inner, shared := maps.Clone(one.own), maps.Clone(one.inner), []map[string]int{}
	for _, vars := range g.shared {
		shared = append(shared, maps.Clone(vars))
	}
	event, _ := one.next()
	if event.Kind == 0 {
		// What it did on its way is not meant to be seen.
		one.lost, one.own, one.inner, g.shared = true, own, inner, shared
		return false
	}
	g.events = append(g.events, event)
	g.stopped = event.Kind == impl.EvFault
	return true
}

func (one *player) play(yield func(impl.Event) bool) {
	one.yield = yield
	if one.do(one.p.Processes[one.at].Body) == wayOn {
		one.over, one.ready = true, false
		one.tell(impl.EvDone, 0)
	}
}

func (one *player) tell(kind, num int) int {
	one.steps = 0
	if !one.yield(impl.Event{Process: one.at, Kind: kind, Num: num}) || kind == impl.EvFault {
		return wayGone
	}
	return wayOn
}

// names are those among which this one is.
func (one *player) names(name string) map[string]int {
	if one.monitor < 0 {
		return one.own
	}
	if _, found := one.inner[name]; found {
		return one.inner
	}
	return one.shared[one.monitor]
}

func (one *player) value(k int) (int, int) {
	node := one.p.Nodes[k]
	vals := []int{}
	for _, kid := range node.Kids {
		n, fault := one.value(kid)
		if fault != 0 {
			return 0, fault
		}
		vals = append(vals, n)
	}
	switch node.Kind {
	case impl.NdNum:
		return node.Num, 0
	case impl.NdVar:
		return one.names(node.Name)[node.Name], 0
	case impl.NdNot:
		return impl.Denied(vals[0]), 0
	case impl.NdNeg:
		return impl.Negated(vals[0])
	}
	return impl.Calc(node.Num, vals[0], vals[1])
}

// valued goes on with the first of a node's Kids, unless that has a fault.
func (one *player) valued(node impl.Node, goOn func(n int) int) int {
	n, fault := one.value(node.Kids[0])
	if fault != 0 {
		return one.tell(impl.EvFault, fault)
	}
	return goOn(n)
}

func (one *player) do(k int) int {
	node := one.p.Nodes[k]
	switch node.Kind {
	case impl.NdPrint:
		return one.valued(node, func(n int) int { return one.tell(impl.EvPrint, n) })
	case impl.NdCall:
		return one.valued(node, func(n int) int { return one.call(node, n) })
	case impl.NdRead:
		return one.read(node.Name)
	case impl.NdDelay:
		return one.delay(one.queue(node.Name))
	case impl.NdCont:
		return one.out(impl.EvCont, one.halls[one.monitor].continueAt(one.queue(node.Name)))
	}
	one.steps++
	if one.steps > 1000 {
		return one.tell(0, 0)
	}
	return one.quiet(k, node)
}

// quiet does a statement that is no event itself.
func (one *player) quiet(k int, node impl.Node) int {
	switch node.Kind {
	case impl.NdSet:
		return one.valued(node, func(n int) int {
			one.names(node.Name)[node.Name] = n
			return wayOn
		})
	case impl.NdIf:
		return one.valued(node, func(n int) int {
			if n != 0 {
				return one.do(node.Kids[1])
			}
			if len(node.Kids) == 3 {
				return one.do(node.Kids[2])
			}
			return wayOn
		})
	case impl.NdWhile:
		return one.valued(node, func(n int) int {
			if n == 0 {
				return wayOn
			}
			if way := one.do(node.Kids[1]); way != wayOn {
				return way
			}
			return one.do(k)
		})
	case impl.NdBlock:
		for _, kid := range node.Kids {
			if way := one.do(kid); way != wayOn {
				return way
			}
		}
	}
	return wayOn
}

func (one *player) queue(name string) int {
	return slices.Index(one.p.Monitors[one.monitor].Queues, name)
}

func (one *player) read(name string) int {
	one.own[name] = 0
	if len(one.input) > 0 {
		one.own[name] = one.input[0]
		one.game.input = one.input[1:]
	}
	return one.tell(impl.EvRead, one.own[name])
}

func (one *player) delay(queue int) int {
	who, ok := one.halls[one.monitor].delayIn(queue)
	if !ok {
		return one.tell(impl.EvFault, impl.FaultQueue)
	}
	one.ready = false
	one.wake(who)
	return one.tell(impl.EvDelay, one.monitor)
}

func (one *player) wake(who int) {
	if who >= 0 {
		one.players[who].ready = true
	}
}

func (one *player) call(node impl.Node, n int) int {
	one.monitor = impl.MonitorAt(one.p, node.Name)
	one.entry = impl.EntryAt(one.p, one.monitor, node.More)
	entry := one.p.Monitors[one.monitor].Entries[one.entry]
	one.to = node.To
	one.inner = map[string]int{entry.Param: n, "result": 0}
	one.ready = one.halls[one.monitor].arrive(one.at)
	if one.tell(impl.EvEnter, one.monitor) == wayGone {
		return wayGone
	}
	way := one.do(entry.Body)
	if way == wayOn {
		way = one.out(impl.EvLeave, one.halls[one.monitor].leave())
	}
	if way == wayGone {
		return wayGone
	}
	return wayOn
}

// out comes out of an entry; who is in then is known.
func (one *player) out(kind, who int) int {
	monitor, result := one.monitor, one.inner["result"]
	one.wake(who)
	one.monitor, one.entry, one.inner = -1, -1, nil
	if one.to != "" {
		one.own[one.to] = result
	}
	if one.tell(kind, monitor) == wayGone {
		return wayGone
	}
	return wayOut
}

// author writes texts that turn out otherwise with each seed.
type author struct{ sown }

func (a *author) one(list ...string) string { return list[a.pick(len(list))] }

func (a *author) value(names []string, deep int) string {
	if deep == 0 || a.pick(3) == 0 {
		if len(names) == 0 || a.pick(2) == 0 {
			return fmt.Sprint(a.pick(4))
		}
		return a.one(names...)
	}
	if a.pick(6) == 0 {
		return a.one("not ", "- ") + a.value(names, deep-1)
	}
	return "( " + a.value(names, deep-1) + a.one(" + ", " - ", " * ", " < ", " = ", " and ", " or ", " + ", " - ", " / ", " % ") + a.value(names, deep-1) + " )"
}

// room is what may stand in a body: names, queues to delay and continue in, and calls.
type room struct{ names, queues, calls []string }

func (a *author) block(r room, deep int) string {
	statements := []string{}
	for range 1 + a.pick(3) {
		statements = append(statements, a.statement(r, deep))
	}
	return "begin " + strings.Join(statements, " ; ") + " end"
}

func (a *author) statement(r room, deep int) string {
	switch choice := a.pick(9); {
	case choice < 3 && len(r.calls) > 0:
		to := ""
		if len(r.names) > 0 && a.pick(3) > 0 {
			to = " to " + a.one(r.names...)
		}
		return "call " + a.one(r.calls...) + " ( " + a.value(r.names, 1) + " )" + to
	case choice == 0 && len(r.queues) > 0:
		return "delay " + a.one(r.queues...)
	case choice == 1 && len(r.queues) > 0 && deep > 0:
		return "continue " + a.one(r.queues...)
	case choice == 3 && deep > 0:
		otherwise := ""
		if a.pick(2) == 0 {
			otherwise = " else " + a.block(r, deep-1)
		}
		return "if " + a.value(r.names, 1) + " then " + a.block(r, deep-1) + otherwise
	case choice == 4 && deep > 0 && len(r.names) > 0:
		name := a.one(r.names...)
		return "while " + name + " < " + fmt.Sprint(a.pick(4)) + " do begin " + name + " := " + name + " + " + a.one("1", "1", "1", "0") + " ; " + a.statement(r, deep-1) + " end"
	case choice == 5 && len(r.names) > 0 && r.queues == nil:
		return "read " + a.one(r.names...)
	case choice < 7 && len(r.names) > 0:
		return a.one(r.names...) + " := " + a.value(r.names, 2)
	case choice < 8:
		return "print " + a.value(r.names, 1)
	}
	return "skip"
}

func declared(word string, names []string) string {
	if len(names) == 0 {
		return ""
	}
	return word + " " + strings.Join(names, " , ") + " ; "
}

// text has up to three monitors and up to four processes; it may be too long to be read.
func (a *author) text() string {
	text, used, calls := "", []string{}, []string{}
	for _, m := range []string{"m", "n", "o"}[:a.pick(4)] {
		vars, queues := []string{"a", "b"}[:a.pick(3)], []string{"q", "r"}[:a.pick(3)]
		text += "monitor " + m + " ; " + declared("var", vars) + declared("queue", queues)
		for _, e := range []string{"e", "f"}[:1+a.pick(2)] {
			inside := room{names: slices.Concat(vars, []string{"x", "result"}), queues: append([]string{}, queues...)}
			text += "entry " + e + " ( x ) " + a.block(inside, 2) + " ; "
			calls = append(calls, m+" . "+e)
		}
		text, used = text+"end ; ", append(used, m)
	}
	uses := ""
	if len(used) > 0 {
		uses = " uses " + strings.Join(used, " , ")
	}
	for _, process := range []string{"a", "b", "c", "d"}[:1+a.pick(4)] {
		vars := []string{"v", "w", "x"}[:a.pick(4)]
		text += "process " + process + uses + " ; " + declared("var", vars) + a.block(room{names: vars, calls: calls}, 2) + " ; "
	}
	return text + "."
}

// envIn has these names with what they stand for.
func envIn(names []string, vals map[string]int) impl.Env {
	e := impl.Env{}
	for _, name := range names {
		e.Names, e.Vals = append(e.Names, name), append(e.Vals, vals[name])
	}
	return e
}

// agrees asks that a model is as the game is.
func (g *game) agrees(t *testing.T, m impl.Model) {
	t.Helper()
	if !slices.Equal(m.Events, g.events) || m.Stopped != g.stopped || !slices.Equal(m.Input, g.input) {
		t.Fatalf("the events are %q, want %q; stopped is %v; of Input there is %v", eventsTold(m.Events), eventsTold(g.events), m.Stopped, m.Input)
	}
	for i, h := range g.halls {
		gateIs(t, "a gate", m.Gates[i], h.gate())
		if want := envIn(g.p.Monitors[i].Vars, g.shared[i]); !sameEnv(m.Vars[i], want) {
			t.Errorf("the Vars are %v, want %v", m.Vars[i], want)
		}
	}
	able := []int{}
	for i, one := range g.players {
		actor := m.Actors[i]
		if actor.Ready != one.ready || actor.Over != one.over || actor.Monitor != one.monitor || actor.Entry != one.entry {
			t.Errorf("actor %d is %+v", i, actor)
		}
		if want := envIn(g.p.Processes[i].Vars, one.own); !sameEnv(actor.Outer.Env, want) {
			t.Errorf("outside are %v, want %v", actor.Outer.Env, want)
		}
		if one.monitor >= 0 {
			if want := envIn([]string{"x", "result"}, one.inner); !sameEnv(actor.Inner.Env, want) {
				t.Errorf("inside are %v, want %v", actor.Inner.Env, want)
			}
		}
		if one.ready && !g.stopped {
			able = append(able, i)
		}
	}
	ableAre(t, m, able...)
	verdictIs(t, m, g.verdict(len(able)))
	if t.Failed() {
		t.FailNow()
	}
}

func (g *game) verdict(able int) int {
	over := 0
	for _, one := range g.players {
		over += truth(one.over)
	}
	switch {
	case g.stopped:
		return impl.VdFault
	case over == len(g.players):
		return impl.VdDone
	case able == 0:
		return impl.VdStuck
	}
	return impl.VdOpen
}

// oneAtATime asks what promise 13 says of a model and the one behind it: one is in each monitor at a time, and who comes out, or has something to tell inside, was in.
func oneAtATime(t *testing.T, was, m impl.Model) {
	t.Helper()
	modelOk(t, "what a process came to", m, true)
	for at, gate := range m.Gates {
		for process, actor := range m.Actors {
			isIn, waits := gate.Owner == process, slices.Contains(gate.Waits, process) || slices.Contains(gate.Queues, process)
			if (actor.Monitor == at) != (isIn || waits) || isIn && !actor.Ready || waits && actor.Ready {
				t.Fatalf("behind %q: process %d is %+v, and the gate at %d is %s", eventsTold(m.Events), process, actor, at, gateTold(gate))
			}
		}
	}
	event := m.Events[len(m.Events)-1]
	monitor := was.Actors[event.Process].Monitor
	switch event.Kind {
	case impl.EvEnter, impl.EvRead, impl.EvDone:
		if monitor != -1 {
			t.Fatalf("the last of %q comes from inside", eventsTold(m.Events))
		}
	case impl.EvLeave, impl.EvDelay, impl.EvCont:
		if monitor != event.Num {
			t.Fatalf("the last of %q comes from outside", eventsTold(m.Events))
		}
	}
	if monitor >= 0 && was.Gates[monitor].Owner != event.Process {
		t.Fatalf("the last of %q comes from one who was not in", eventsTold(m.Events))
	}
}

// playedOut plays a text with some picks, and holds the model against the game at each.
func playedOut(t *testing.T, a *author, text string, kinds, verdicts map[int]int) (lost bool) {
	t.Helper()
	p, fault := impl.ReadProgram(text)
	input := listsOver(list(3, -1), 3)[a.pick(15)]
	m, ok := impl.ModelNew(p, input)
	if fault != 0 || !ok {
		return false
	}
	g := gameOf(p, input)
	defer g.end()
	picks := []int{}
	for idle := 0; len(picks) < 120 && idle < 10; {
		process := a.pick(len(p.Processes))
		picks = append(picks, process+len(p.Processes)*a.pick(3))
		next, went := impl.ModelGo(m, process)
		if want := g.pick(process); went != want {
			t.Fatalf("%q behind %q: process %d goes on: %v, want %v", text, eventsTold(m.Events), process, went, want)
		}
		g.agrees(t, next)
		if went {
			oneAtATime(t, m, next)
			kinds[next.Events[len(m.Events)].Kind]++
		}
		idle += truth(!went)
		m = next
	}
	run, ok := impl.RunModel(p, input, picks)
	if !ok {
		t.Fatalf("RunModel of %q is false", text)
	}
	modelIs(t, "RunModel", run, m)
	verdicts[impl.VerdictOf(m)]++
	return slices.ContainsFunc(g.players, func(one *player) bool { return one.lost })
}

// Many programs with many orders of picks, each held against the program that is played.
func TestModelsArePlayed(t *testing.T) {
	kinds, verdicts, lost := map[int]int{}, map[int]int{}, 0
	for seed := range 1000 {
		a := &author{sown{turn: seed * 31}}
		text := a.text()
		lost += truth(playedOut(t, a, text, kinds, verdicts))
	}
	for kind := impl.EvEnter; kind <= impl.EvFault; kind++ {
		if kinds[kind] < 50 {
			t.Errorf("%d events of kind %d", kinds[kind], kind)
		}
	}
	for verdict := impl.VdOpen; verdict <= impl.VdFault; verdict++ {
		if verdicts[verdict] < 10 {
			t.Errorf("%d verdicts are %d", verdicts[verdict], verdict)
		}
	}
	if lost < 10 {
		t.Errorf("in %d games a process goes on for too long", lost)
	}
}

// eachOrder goes through all orders in which processes may go on, from one model to those behind it; models that differ in their events alone, and not in what the prints of the first process are, are gone through once.
func eachOrder(t *testing.T, m impl.Model, seen map[string]bool, atEnd func(m impl.Model)) {
	t.Helper()
	state := impl.Model{Actors: m.Actors, Gates: m.Gates, Vars: m.Vars, Input: m.Input, Stopped: m.Stopped}
	key := modelTold(state) + fmt.Sprint(printsOfFirst(m))
	if seen[key] {
		return
	}
	seen[key] = true
	able := impl.Able(m)
	if len(able) == 0 {
		atEnd(m)
	}
	for process := range m.Actors {
		next, went := impl.ModelGo(m, process)
		if went != slices.Contains(able, process) {
			t.Fatalf("process %d goes on behind %q: %v", process, eventsTold(m.Events), went)
		}
		if went {
			oneAtATime(t, m, next)
			eachOrder(t, next, seen, atEnd)
		}
	}
}

// printsOfFirst are what process 0 printed.
func printsOfFirst(m impl.Model) []int {
	return impl.PrintsOf(slices.DeleteFunc(slices.Clone(m.Events), func(e impl.Event) bool { return e.Process != 0 }))
}

// theShelf is a monitor with room for one thing: who puts waits until it is empty, who takes until it is full.
const theShelf = "monitor s ; var full , thing ; queue p , g ; entry put ( x ) begin if full then begin delay p end ; thing := x ; full := 1 ; continue g end ; " +
	"entry get ( y ) begin if not full then begin delay g end ; result := thing ; full := 0 ; continue p end ; end ; " +
	"process a uses s ; var i , v ; begin while i < 3 do begin i := i + 1 ; call s . get ( 0 ) to v ; print v end end ; " +
	"process b uses s ; var i ; begin while i < 3 do begin i := i + 1 ; call s . put ( i * 10 ) end end ; "

func TestEachOrderOfTwo(t *testing.T) {
	ends, seen := 0, map[string]bool{}
	eachOrder(t, modelFrom(t, theShelf+"."), seen, func(m impl.Model) {
		ends++
		verdictIs(t, m, impl.VdDone)
		if got := printsOfFirst(m); !slices.Equal(got, list(10, 20, 30)) {
			t.Errorf("printed is %v by %q", got, eventsTold(m.Events))
		}
	})
	if ends == 0 || len(seen) < 50 {
		t.Errorf("%d ends of %d models", ends, len(seen))
	}
}

// With two who take, one of them may find the queue taken, or wait for ever.
func TestEachOrderOfThree(t *testing.T) {
	verdicts := map[int]int{}
	eachOrder(t, modelFrom(t, theShelf+"process c uses s ; var v ; begin call s . get ( 0 ) to v ; print v end ; ."), map[string]bool{}, func(m impl.Model) {
		verdicts[impl.VerdictOf(m)]++
	})
	if verdicts[impl.VdFault] == 0 || verdicts[impl.VdStuck] == 0 || verdicts[impl.VdDone] > 0 || verdicts[impl.VdOpen] > 0 {
		t.Errorf("the verdicts are %v", verdicts)
	}
}

func TestEachOrderOfFour(t *testing.T) {
	ends := map[string]bool{}
	eachOrder(t, modelFrom(t, theInn), map[string]bool{}, func(m impl.Model) {
		came := []int{}
		for _, actor := range m.Actors {
			came = append(came, impl.GetIn(actor.Outer.Env, "v"))
		}
		ends[fmt.Sprint(impl.VerdictOf(m), came)] = true
	})
	want := map[string]bool{}
	for _, came := range listsOver(list(1, 2, 3, 4), 4) {
		sorted := slices.Sorted(slices.Values(came))
		if !slices.Equal(sorted, list(1, 2, 3, 4)) {
			continue
		}
		if came[0] > came[1] {
			// When 2 came ahead of 1, nobody continues 1, which then has not told when it came.
			came[0] = 0
			want[fmt.Sprint(impl.VdStuck, came)] = true
		} else {
			want[fmt.Sprint(impl.VdDone, came)] = true
		}
	}
	if !maps.Equal(ends, want) {
		t.Errorf("the ends are %v, want %v", ends, want)
	}
}
