package tests

import (
	"fmt"
	"math"
	"slices"
	"testing"

	"loop.example/g00290/impl"
)

func list(numbers ...int) []int { return numbers }

func gateOf(owner int, waits, queues []int) impl.Gate {
	return impl.Gate{Owner: owner, Waits: waits, Queues: queues}
}

func gateTold(g impl.Gate) string { return fmt.Sprint(g.Owner, " ", g.Waits, " ", g.Queues) }

func gateIs(t *testing.T, what string, got, want impl.Gate) {
	t.Helper()
	if gateTold(got) != gateTold(want) {
		t.Errorf("%s is %.500s, want %.500s", what, gateTold(got), gateTold(want))
	}
}

func gateOk(t *testing.T, g impl.Gate, want bool) {
	t.Helper()
	if got := impl.GateOk(g); got != want {
		t.Errorf("GateOk(%.500s) is %v", gateTold(g), got)
	}
}

func arrives(t *testing.T, g impl.Gate, process int, want impl.Gate, wantIn bool) {
	t.Helper()
	got, in := impl.Arrive(g, process)
	gateIs(t, fmt.Sprintf("Arrive(%.500s, %d)", gateTold(g), process), got, want)
	if in != wantIn {
		t.Errorf("Arrive(%.500s, %d) tells %v", gateTold(g), process, in)
	}
}

func leaves(t *testing.T, g, want impl.Gate, wantWho int) {
	t.Helper()
	got, who := impl.Leave(g)
	gateIs(t, fmt.Sprintf("Leave(%.500s)", gateTold(g)), got, want)
	if who != wantWho {
		t.Errorf("Leave(%.500s) tells %d, want %d", gateTold(g), who, wantWho)
	}
}

func delays(t *testing.T, g impl.Gate, queue int, want impl.Gate, wantWho int, wantOk bool) {
	t.Helper()
	got, who, ok := impl.DelayIn(g, queue)
	gateIs(t, fmt.Sprintf("DelayIn(%.500s, %d)", gateTold(g), queue), got, want)
	if who != wantWho || ok != wantOk {
		t.Errorf("DelayIn(%.500s, %d) tells %d, %v, want %d, %v", gateTold(g), queue, who, ok, wantWho, wantOk)
	}
}

func continues(t *testing.T, g impl.Gate, queue int, want impl.Gate, wantWho int) {
	t.Helper()
	got, who := impl.ContinueAt(g, queue)
	gateIs(t, fmt.Sprintf("ContinueAt(%.500s, %d)", gateTold(g), queue), got, want)
	if who != wantWho {
		t.Errorf("ContinueAt(%.500s, %d) tells %d, want %d", gateTold(g), queue, who, wantWho)
	}
}

// gateStays asks that nothing be done at a gate, whoever arrives and at whatever queue.
func gateStays(t *testing.T, g impl.Gate) {
	t.Helper()
	for process := -2; process <= 5; process++ {
		arrives(t, g, process, g, false)
	}
	leaves(t, g, g, -1)
	for queue := -2; queue <= 4; queue++ {
		delays(t, g, queue, g, -1, false)
		continues(t, g, queue, g, -1)
	}
}

func TestNewGates(t *testing.T) {
	for queues, want := range map[int][]int{
		0: nil, 1: list(-1), 2: list(-1, -1), 3: list(-1, -1), 4: list(-1, -1), 1 << 40: list(-1, -1), math.MaxInt: list(-1, -1),
		-1: nil, -2: nil, math.MinInt: nil,
	} {
		got := impl.GateNew(queues)
		gateIs(t, fmt.Sprintf("GateNew(%d)", queues), got, gateOf(-1, nil, want))
		gateOk(t, got, true)
	}
}

func TestRightGates(t *testing.T) {
	for _, g := range []impl.Gate{
		gateOf(-1, nil, nil), gateOf(0, nil, nil), gateOf(3, nil, nil),
		gateOf(-1, nil, list(-1)), gateOf(-1, nil, list(3)), gateOf(-1, nil, list(3, 0)),
		gateOf(0, list(1, 2, 3), nil), gateOf(3, list(2, 0), list(-1, 1)), gateOf(1, list(), list(3, -1)),
		gateOf(2, list(3), list(0, 1)), gateOf(0, list(3), list(-1, -1)), {},
	} {
		gateOk(t, g, true)
	}
}

// wrongGates are gates that are not right, each by one thing that the chapter names.
func wrongGates() []impl.Gate {
	return []impl.Gate{
		gateOf(-2, nil, nil), gateOf(4, nil, nil), gateOf(math.MinInt, nil, nil), gateOf(math.MaxInt, nil, nil), gateOf(256, nil, list(-1)), gateOf(-256, nil, list(2)),
		gateOf(0, nil, list(-1, -1, -1)), gateOf(-1, nil, list(-1, -1, -1)), gateOf(0, list(1), list(2, -1, 3)),
		gateOf(0, list(-1), nil), gateOf(0, list(4), nil), gateOf(0, list(1, -1), nil), gateOf(0, list(1, 4), list(-1)), gateOf(0, list(-2, 1), nil), gateOf(0, list(math.MaxInt), nil), gateOf(0, list(1, 256), nil),
		gateOf(0, nil, list(-2)), gateOf(0, nil, list(4)), gateOf(0, nil, list(-1, 4)), gateOf(0, list(1), list(-2, -1)), gateOf(-1, nil, list(math.MinInt)), gateOf(0, nil, list(-1, 256)),
		gateOf(1, list(1), nil), gateOf(1, list(2, 1), nil), gateOf(1, nil, list(1)), gateOf(1, nil, list(-1, 1)), gateOf(1, list(2, 2), nil), gateOf(1, list(2, 3, 2), nil),
		gateOf(1, list(2), list(2)), gateOf(1, list(2), list(-1, 2)), gateOf(1, list(0, 3), list(-1, 3)), gateOf(1, nil, list(2, 2)), gateOf(-1, nil, list(2, 2)), gateOf(0, nil, list(3, 3)), gateOf(3, nil, list(0, 0)),
		gateOf(-1, list(0), nil), gateOf(-1, list(3), list(-1)), gateOf(-1, list(1, 2), list(0, 3)),
	}
}

func TestWrongGatesStay(t *testing.T) {
	for _, g := range wrongGates() {
		gateOk(t, g, false)
		gateStays(t, g)
	}
}

func TestArrivingWhereNobodyIs(t *testing.T) {
	for process := range 4 {
		arrives(t, impl.GateNew(0), process, gateOf(process, nil, nil), true)
		arrives(t, impl.GateNew(2), process, gateOf(process, nil, list(-1, -1)), true)
	}
	arrives(t, gateOf(-1, nil, list(2)), 0, gateOf(0, nil, list(2)), true)
	arrives(t, gateOf(-1, nil, list(2, 1)), 3, gateOf(3, nil, list(2, 1)), true)
}

func TestArrivingWhereSomebodyIs(t *testing.T) {
	arrives(t, gateOf(2, nil, nil), 0, gateOf(2, list(0), nil), false)
	arrives(t, gateOf(2, list(3), nil), 0, gateOf(2, list(3, 0), nil), false)
	arrives(t, gateOf(2, list(3, 1), list(-1, -1)), 0, gateOf(2, list(3, 1, 0), list(-1, -1)), false)
	arrives(t, gateOf(0, list(1), list(2)), 3, gateOf(0, list(1, 3), list(2)), false)
}

func TestArrivingOfNoProcess(t *testing.T) {
	for _, process := range placesBeyond(4) {
		for _, g := range []impl.Gate{impl.GateNew(0), impl.GateNew(2), gateOf(0, nil, nil), gateOf(0, list(1), list(2, -1)), gateOf(-1, nil, list(3))} {
			arrives(t, g, process, g, false)
		}
	}
}

func TestArrivingOfWhoIsThere(t *testing.T) {
	g := gateOf(2, list(3), list(-1, 0))
	for _, process := range list(2, 3, 0) {
		arrives(t, g, process, g, false)
	}
	arrives(t, g, 1, gateOf(2, list(3, 1), list(-1, 0)), false)
	for _, process := range list(0, 3) {
		left := gateOf(-1, nil, list(3, 0))
		arrives(t, left, process, left, false)
	}
}

func TestLeaving(t *testing.T) {
	leaves(t, gateOf(0, nil, nil), gateOf(-1, nil, nil), -1)
	leaves(t, gateOf(3, nil, list(-1, 2)), gateOf(-1, nil, list(-1, 2)), -1)
	leaves(t, gateOf(3, list(0), list(-1)), gateOf(0, nil, list(-1)), 0)
	leaves(t, gateOf(1, list(3, 0, 2), nil), gateOf(3, list(0, 2), nil), 3)
	leaves(t, gateOf(1, list(3, 2), list(0)), gateOf(3, list(2), list(0)), 3)
}

func TestLeavingWhereNobodyIs(t *testing.T) {
	for _, g := range []impl.Gate{impl.GateNew(0), impl.GateNew(2), gateOf(-1, nil, list(0)), gateOf(-1, nil, list(3, 1))} {
		leaves(t, g, g, -1)
	}
}

func TestDelaying(t *testing.T) {
	delays(t, gateOf(0, nil, list(-1)), 0, gateOf(-1, nil, list(0)), -1, true)
	delays(t, gateOf(3, list(0), list(-1, -1)), 0, gateOf(0, nil, list(3, -1)), 0, true)
	delays(t, gateOf(3, list(0), list(-1, -1)), 1, gateOf(0, nil, list(-1, 3)), 0, true)
	delays(t, gateOf(1, list(2, 0), list(3, -1)), 1, gateOf(2, list(0), list(3, 1)), 2, true)
	delays(t, gateOf(1, list(2, 3, 0), list(-1, -1)), 0, gateOf(2, list(3, 0), list(1, -1)), 2, true)
	delays(t, gateOf(1, nil, list(-1, 0)), 0, gateOf(-1, nil, list(1, 0)), -1, true)
}

func TestDelayingInAQueueThatIsTaken(t *testing.T) {
	for _, g := range []impl.Gate{gateOf(0, nil, list(1)), gateOf(0, nil, list(1, -1)), gateOf(1, list(2), list(0, -1)), gateOf(3, list(2), list(0, 1))} {
		delays(t, g, 0, g, -1, false)
	}
	for _, g := range []impl.Gate{gateOf(1, nil, list(-1, 0)), gateOf(3, list(2), list(0, 1))} {
		delays(t, g, 1, g, -1, false)
	}
}

func TestContinuing(t *testing.T) {
	continues(t, gateOf(0, nil, list(1)), 0, gateOf(1, nil, list(-1)), 1)
	continues(t, gateOf(1, nil, list(0)), 0, gateOf(0, nil, list(-1)), 0)
	continues(t, gateOf(1, nil, list(3, 0)), 0, gateOf(3, nil, list(-1, 0)), 3)
	continues(t, gateOf(1, nil, list(3, 0)), 1, gateOf(0, nil, list(3, -1)), 0)
}

func TestContinuingAheadOfAllWhoWantIn(t *testing.T) {
	continues(t, gateOf(0, list(1, 2), list(3)), 0, gateOf(3, list(1, 2), list(-1)), 3)
	continues(t, gateOf(1, list(2), list(3, 0)), 1, gateOf(0, list(2), list(3, -1)), 0)
}

func TestContinuingWhereNobodyWaits(t *testing.T) {
	continues(t, gateOf(0, nil, list(-1)), 0, gateOf(-1, nil, list(-1)), -1)
	continues(t, gateOf(0, list(2, 1), list(-1)), 0, gateOf(2, list(1), list(-1)), 2)
	continues(t, gateOf(0, list(2, 1), list(3, -1)), 1, gateOf(2, list(1), list(3, -1)), 2)
	continues(t, gateOf(0, nil, list(-1, 3)), 0, gateOf(-1, nil, list(-1, 3)), -1)
}

func TestNoSuchQueue(t *testing.T) {
	for _, g := range []impl.Gate{
		gateOf(0, nil, nil), gateOf(0, list(1), nil), gateOf(0, list(1), list(-1)), gateOf(0, nil, list(1)),
		gateOf(3, list(2, 1), list(-1, -1)), gateOf(3, list(2), list(0, -1)), gateOf(3, list(2), list(0, 1)),
	} {
		for _, queue := range placesBeyond(len(g.Queues)) {
			delays(t, g, queue, g, -1, false)
			continues(t, g, queue, g, -1)
		}
	}
}

func TestQueuesWhereNobodyIs(t *testing.T) {
	for _, g := range []impl.Gate{impl.GateNew(0), impl.GateNew(1), impl.GateNew(2), gateOf(-1, nil, list(0)), gateOf(-1, nil, list(-1, 3)), gateOf(-1, nil, list(3, 1))} {
		for queue := -1; queue <= 3; queue++ {
			delays(t, g, queue, g, -1, false)
			continues(t, g, queue, g, -1)
		}
	}
}

// Three come while one is in, and go in as they came; who was delayed goes on ahead of them.
func TestADayAtAGate(t *testing.T) {
	g, in := impl.Arrive(impl.GateNew(2), 2)
	if !in {
		t.Error("the first is not let in")
	}
	for _, process := range list(0, 3, 1) {
		g, in = impl.Arrive(g, process)
		if in {
			t.Errorf("%d is let in beside another one", process)
		}
	}
	g, who, ok := impl.DelayIn(g, 1)
	if !ok || who != 0 {
		t.Errorf("0 came first, %d is let in, %v", who, ok)
	}
	g, who, ok = impl.DelayIn(g, 0)
	if !ok || who != 3 {
		t.Errorf("3 came next, %d is let in, %v", who, ok)
	}
	order := []int{}
	for _, queue := range list(1, 1, 0, 0) {
		g, who = impl.ContinueAt(g, queue)
		order = append(order, who)
	}
	if !slices.Equal(order, list(2, 1, 0, -1)) {
		t.Errorf("%v are let in", order)
	}
	gateIs(t, "the gate at the end", g, impl.GateNew(2))
}
