package tests

import (
	"fmt"
	"slices"
	"testing"

	"loop.example/g00290/impl"
)

// A spot is where a process is: in, in a line with a ticket, or in a queue.
const (
	spotIn = iota + 1
	spotLine
	spotQueue
)

type spot struct{ sort, at int }

// hall tells a gate by where each process is.
type hall struct {
	spots  map[int]spot
	queues int
	ticket int
}

func hallOf(g impl.Gate) *hall {
	h := &hall{spots: map[int]spot{}, queues: len(g.Queues)}
	if g.Owner >= 0 {
		h.spots[g.Owner] = spot{spotIn, 0}
	}
	for _, process := range g.Waits {
		h.ticket++
		h.spots[process] = spot{spotLine, h.ticket}
	}
	for queue, process := range g.Queues {
		if process >= 0 {
			h.spots[process] = spot{spotQueue, queue}
		}
	}
	return h
}

func (h *hall) gate() impl.Gate {
	g := impl.Gate{Owner: h.at(spotIn, 0)}
	for ticket := 1; ticket <= h.ticket; ticket++ {
		if who := h.at(spotLine, ticket); who >= 0 {
			g.Waits = append(g.Waits, who)
		}
	}
	for queue := range h.queues {
		g.Queues = append(g.Queues, h.at(spotQueue, queue))
	}
	return g
}

// at is who is at a spot, or -1.
func (h *hall) at(sort, at int) int {
	for process := range 4 {
		if h.spots[process] == (spot{sort, at}) {
			return process
		}
	}
	return -1
}

func (h *hall) arrive(process int) bool {
	_, there := h.spots[process]
	if there || process < 0 || process > 3 {
		return false
	}
	if h.at(spotIn, 0) >= 0 {
		h.ticket++
		h.spots[process] = spot{spotLine, h.ticket}
		return false
	}
	h.spots[process] = spot{spotIn, 0}
	return true
}

// next lets in who has the least ticket, when somebody was in.
func (h *hall) next(was int) int {
	for ticket := 1; was >= 0 && ticket <= h.ticket; ticket++ {
		if who := h.at(spotLine, ticket); who >= 0 {
			h.spots[who] = spot{spotIn, 0}
			return who
		}
	}
	return -1
}

func (h *hall) leave() int {
	was := h.at(spotIn, 0)
	delete(h.spots, was)
	return h.next(was)
}

func (h *hall) delayIn(queue int) (int, bool) {
	was := h.at(spotIn, 0)
	if was < 0 || queue < 0 || queue >= h.queues || h.at(spotQueue, queue) >= 0 {
		return -1, false
	}
	h.spots[was] = spot{spotQueue, queue}
	return h.next(was), true
}

func (h *hall) continueAt(queue int) int {
	was, waits := h.at(spotIn, 0), h.at(spotQueue, queue)
	if was < 0 || queue < 0 || queue >= h.queues {
		return -1
	}
	if waits < 0 {
		return h.leave()
	}
	delete(h.spots, was)
	h.spots[waits] = spot{spotIn, 0}
	return waits
}

// listsOver are all lists of up to so many of these numbers.
func listsOver(numbers []int, size int) [][]int {
	all, ends := [][]int{nil}, [][]int{nil}
	for range size {
		longer := [][]int{}
		for _, end := range ends {
			for _, n := range numbers {
				longer = append(longer, append(slices.Clone(end), n))
			}
		}
		all, ends = append(all, longer...), longer
	}
	return all
}

// gateRight is the chapter's rule, told by counting.
func gateRight(g impl.Gate) bool {
	times := map[int]int{}
	for _, process := range g.Waits {
		if process < 0 {
			return false
		}
		times[process]++
	}
	for _, process := range append(slices.Clone(g.Queues), g.Owner) {
		if process != -1 {
			times[process]++
		}
	}
	for process, count := range times {
		if process < 0 || process > 3 || count > 1 {
			return false
		}
	}
	return len(g.Queues) < 3 && (len(g.Waits) == 0 || g.Owner != -1)
}

// rightGates are all gates that are right.
func rightGates() []impl.Gate {
	gates := []impl.Gate{}
	for owner := -1; owner <= 3; owner++ {
		for _, queues := range listsOver(list(-1, 0, 1, 2, 3), 2) {
			for _, waits := range listsOver(list(0, 1, 2, 3), 4) {
				if g := gateOf(owner, waits, queues); gateRight(g) {
					gates = append(gates, g)
				}
			}
		}
	}
	return gates
}

// someGates are many gates, right ones and wrong ones.
func someGates() []impl.Gate { return append(rightGates(), wrongGates()...) }

func TestWhichGatesAreRight(t *testing.T) {
	right := 0
	for owner := -2; owner <= 4; owner++ {
		for _, queues := range listsOver(list(-2, -1, 0, 1, 3, 4), 3) {
			for _, waits := range listsOver(list(-2, -1, 0, 1, 3, 4), 3) {
				g := gateOf(owner, waits, queues)
				gateOk(t, g, gateRight(g))
				right += min(1, len(waits)) * truth(gateRight(g))
			}
		}
	}
	if right < 50 {
		t.Errorf("%d gates at which somebody waits are right", right)
	}
}

// Each call at each right gate, against the hall.
func TestEachRightGate(t *testing.T) {
	for _, g := range rightGates() {
		gateOk(t, g, true)
		for process := -2; process <= 5; process++ {
			h := hallOf(g)
			in := h.arrive(process)
			arrives(t, g, process, h.gate(), in)
		}
		h := hallOf(g)
		who := h.leave()
		leaves(t, g, h.gate(), who)
		for queue := -2; queue <= 3; queue++ {
			h := hallOf(g)
			who, ok := h.delayIn(queue)
			delays(t, g, queue, h.gate(), who, ok)
			h = hallOf(g)
			who = h.continueAt(queue)
			continues(t, g, queue, h.gate(), who)
		}
	}
}

// watcher follows a gate from outside: who came when, who is in, who was delayed.
type watcher struct {
	came []int
	in   int
	// delayed has who was delayed in a queue, for as long.
	delayed map[int]int
}

// goesIn notes who is let in: somebody only where nobody is, and of those who came the first.
func (w *watcher) goesIn(t *testing.T, who int) {
	t.Helper()
	if w.in != -1 {
		t.Fatalf("%d is let in beside %d", who, w.in)
	}
	if who == -1 && len(w.came) > 0 {
		t.Fatalf("nobody is let in, and %v wait", w.came)
	}
	if who != -1 && w.came[0] != who {
		t.Fatalf("%d is let in, and %d came first", who, w.came[0])
	}
	if who != -1 {
		w.came = w.came[1:]
	}
	w.in = who
}

// someCall makes one call at a gate, and asks the watcher about it.
func (w *watcher) someCall(t *testing.T, g impl.Gate, choice, n int) impl.Gate {
	t.Helper()
	switch choice {
	case 0:
		next, who := impl.Leave(g)
		if w.in != -1 {
			w.in = -1
			w.goesIn(t, who)
		}
		return next
	case 1:
		next, who, ok := impl.DelayIn(g, n)
		_, taken := w.delayed[n]
		if ok == (taken || w.in == -1 || n >= len(g.Queues)) {
			t.Fatalf("DelayIn(%s, %d) tells %v", gateTold(g), n, ok)
		}
		if ok {
			w.delayed[n] = w.in
			w.in = -1
			w.goesIn(t, who)
		}
		return next
	case 2:
		next, who := impl.ContinueAt(g, n)
		waits, taken := w.delayed[n]
		if w.in == -1 || n >= len(g.Queues) {
			return next
		}
		w.in = -1
		if taken {
			delete(w.delayed, n)
			// Who was delayed goes in ahead of all others.
			w.came = append(list(waits), w.came...)
		}
		w.goesIn(t, who)
		return next
	}
	next, in := impl.Arrive(g, n)
	if !w.knows(n) {
		w.came = append(w.came, n)
		if in {
			w.goesIn(t, n)
		}
	} else if in {
		t.Fatalf("%d is let in twice", n)
	}
	return next
}

func (w *watcher) knows(process int) bool {
	for _, delayed := range w.delayed {
		if delayed == process {
			return true
		}
	}
	return w.in == process || slices.Contains(w.came, process)
}

// gate is what the watcher thinks the gate is.
func (w *watcher) gate(queues int) impl.Gate {
	g := gateOf(w.in, w.came, slices.Repeat(list(-1), queues))
	for queue, process := range w.delayed {
		g.Queues[queue] = process
	}
	return g
}

// In a long life of a gate one is in at a time, who came first is let in first, and nobody is lost.
func TestALongLifeOfAGate(t *testing.T) {
	for seed := range 60 {
		s := sown{turn: seed}
		queues := seed % 3
		g, w := impl.GateNew(queues), watcher{in: -1, delayed: map[int]int{}}
		fullest := 0
		for range 400 {
			choice, n := s.pick(6), s.pick(4)
			g = w.someCall(t, g, choice, n)
			gateIs(t, fmt.Sprintf("the gate of seed %d behind %d of %d", seed, choice, n), g, w.gate(queues))
			gateOk(t, g, true)
			fullest = max(fullest, len(w.came)+len(w.delayed))
		}
		if fullest < 3 {
			t.Errorf("seed %d: at most %d wait", seed, fullest)
		}
	}
}

// gateAnswers are all functions that answer a gate, of this one.
func gateAnswers(g impl.Gate) map[string]func() impl.Gate {
	answers := map[string]func() impl.Gate{"Leave": func() impl.Gate {
		next, _ := impl.Leave(g)
		return next
	}}
	for n := -1; n <= 4; n++ {
		answers[fmt.Sprint("Arrive of ", n)] = func() impl.Gate {
			next, _ := impl.Arrive(g, n)
			return next
		}
		answers[fmt.Sprint("DelayIn at ", n)] = func() impl.Gate {
			next, _, _ := impl.DelayIn(g, n)
			return next
		}
		answers[fmt.Sprint("ContinueAt ", n)] = func() impl.Gate {
			next, _ := impl.ContinueAt(g, n)
			return next
		}
	}
	return answers
}

func gateWithRoom(g impl.Gate) impl.Gate {
	return gateOf(g.Owner, withRoom(g.Waits, 77), withRoom(g.Queues, 78))
}

// gateIsLeft asks for a gate as it was, and for the room behind its lists.
func gateIsLeft(t *testing.T, what string, g, was impl.Gate) {
	t.Helper()
	if gateTold(g) != gateTold(was) || behindEnd(g.Waits) != 77 || behindEnd(g.Queues) != 78 {
		t.Errorf("%s changed %s to %s", what, gateTold(was), gateTold(g))
	}
}

func TestGatesAreLeftAsTheyWere(t *testing.T) {
	for _, was := range someGates() {
		g := gateWithRoom(was)
		impl.GateOk(g)
		gateIsLeft(t, "GateOk", g, was)
		for what, ask := range gateAnswers(g) {
			ask()
			gateIsLeft(t, what, g, was)
		}
	}
}

// spoilList writes into all that a list has, and the room behind it.
func spoilList(list []int) {
	for i := range list[:cap(list)] {
		list[:cap(list)][i] = -9
	}
}

// gateIsNew asks that an answer share nothing with one told before, and that its two lists be apart.
func gateIsNew(t *testing.T, what string, ask func() impl.Gate) {
	t.Helper()
	first, second := ask(), ask()
	want := gateTold(second)
	queues := fmt.Sprint(first.Queues)
	spoilList(first.Waits)
	if fmt.Sprint(first.Queues) != queues {
		t.Errorf("%s: Waits and Queues share memory", what)
	}
	waits := fmt.Sprint(first.Waits)
	spoilList(first.Queues)
	if fmt.Sprint(first.Waits) != waits || gateTold(second) != want || gateTold(ask()) != want {
		t.Errorf("%s shares its answer", what)
	}
}

func TestGatesAreNewMemory(t *testing.T) {
	for queues := -1; queues <= 3; queues++ {
		gateIsNew(t, "GateNew", func() impl.Gate { return impl.GateNew(queues) })
	}
	for _, was := range someGates() {
		g := gateWithRoom(was)
		for what, ask := range gateAnswers(g) {
			gateIsNew(t, what+" at "+gateTold(was), ask)
			gateIsLeft(t, "an answer of "+what, g, was)
		}
	}
}

// Two lists that are handed in as one memory come out apart, and what stands behind them is nobody's.
func TestListsOfOneMemory(t *testing.T) {
	memory := list(0, 1, 2, 3)
	for _, g := range []impl.Gate{gateOf(3, memory[0:1], memory[1:3]), gateOf(0, memory[3:], memory[1:3]), gateOf(3, memory[1:2], memory[1:2]), gateOf(0, memory, memory)} {
		was := gateOf(g.Owner, slices.Clone(g.Waits), slices.Clone(g.Queues))
		for what, ask := range gateAnswers(g) {
			gateIsNew(t, what, ask)
			gateIs(t, what, ask(), gateAnswers(was)[what]())
		}
	}
	if !slices.Equal(memory, list(0, 1, 2, 3)) {
		t.Errorf("what was handed in is now %v", memory)
	}
}

// However long the lists are, each call ends.
func TestLongGates(t *testing.T) {
	long := slices.Repeat(list(1), 300000)
	for _, g := range []impl.Gate{gateOf(0, long, nil), gateOf(0, nil, long), gateOf(0, long, long), gateOf(0, nil, slices.Repeat(list(-1), 300000))} {
		gateOk(t, g, false)
		arrived, in := impl.Arrive(g, 2)
		left, who := impl.Leave(g)
		delayed, next, ok := impl.DelayIn(g, 0)
		continued, none := impl.ContinueAt(g, 0)
		for _, same := range []impl.Gate{arrived, left, delayed, continued} {
			if same.Owner != 0 || !slices.Equal(same.Waits, g.Waits) || !slices.Equal(same.Queues, g.Queues) {
				t.Error("a long gate is not as it was")
			}
		}
		if in || ok || who != -1 || next != -1 || none != -1 {
			t.Error("a long gate is taken for right")
		}
	}
}
