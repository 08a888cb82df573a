package tests

import (
	"math"
	"slices"
	"strconv"
	"testing"

	"loop.example/g00290/impl"
)

// rightsRuler tells who may go where, pair by pair, without anything that the chapter's functions tell.
type rightsRuler struct{ p impl.Program }

func (r rightsRuler) isPair(process, m int) bool {
	return process >= 0 && process < len(r.p.Processes) && m >= 0 && m < len(r.p.Monitors)
}

func (r rightsRuler) uses(process, m int) bool {
	return r.isPair(process, m) && slices.Contains(r.p.Processes[process].Uses, r.p.Monitors[m].Name)
}

// callsBelow tells whether a call of this name stands at a node, or below it.
func (r rightsRuler) callsBelow(k int, name string) bool {
	node := r.p.Nodes[k]
	if node.Kind == impl.NdCall && node.Name == name {
		return true
	}
	return slices.ContainsFunc(node.Kids, func(kid int) bool { return r.callsBelow(kid, name) })
}

func (r rightsRuler) calls(process, m int) bool {
	if !r.isPair(process, m) {
		return false
	}
	body := r.p.Processes[process].Body
	return impl.DeepOf(r.p, body) > 0 && r.callsBelow(body, r.p.Monitors[m].Name)
}

// callers are the processes that call a monitor.
func (r rightsRuler) callers(m int) []int {
	list := []int{}
	for process := range r.p.Processes {
		if r.calls(process, m) {
			list = append(list, process)
		}
	}
	return list
}

func (r rightsRuler) granted() bool {
	if impl.ScopeOf(r.p) != 0 {
		return false
	}
	for process := range r.p.Processes {
		for m := range r.p.Monitors {
			if r.calls(process, m) && !r.uses(process, m) {
				return false
			}
		}
	}
	return true
}

// asks asks for all that the rules tell of a program, also of places around it; it tells whether it is granted.
func (r rightsRuler) asks(t *testing.T) bool {
	t.Helper()
	for m := -1; m <= len(r.p.Monitors); m++ {
		users := []int{}
		for process := -1; process <= len(r.p.Processes); process++ {
			uses := r.uses(process, m)
			usesIs(t, r.p, process, m, uses)
			if uses {
				users = append(users, process)
			}
		}
		usersAre(t, r.p, m, users...)
		sharedIs(t, r.p, m, len(r.callers(m)) > 1)
	}
	for process := -1; process <= len(r.p.Processes); process++ {
		called := []int{}
		for m := range r.p.Monitors {
			if r.calls(process, m) {
				called = append(called, m)
			}
		}
		callsAre(t, r.p, process, called...)
	}
	granted := r.granted()
	grantedIs(t, r.p, granted)
	return granted
}

// fullCourt is a program in which monitors are called and used by some, by none, and by all.
func fullCourt(t *testing.T) impl.Program {
	t.Helper()
	return readFrom(t, court(
		visitor{"m , n", calling("n")}, visitor{"n", "while 0 do begin " + calling("n") + " end"},
		visitor{"", "skip"}, visitor{"o , m , n", calling("o", "n", "o")},
	))
}

// askedPrograms are some programs in memory of their own.
func askedPrograms(t *testing.T) []impl.Program {
	t.Helper()
	return []impl.Program{fullCourt(t), fullHalls(t), readFrom(t, everyKind), largest(), smallest()}
}

func TestRightsOfSomePrograms(t *testing.T) {
	for _, p := range askedPrograms(t) {
		rightsRuler{p}.asks(t)
	}
}

func TestRightsWithEachNameInEachPlace(t *testing.T) {
	granted, refused := 0, 0
	for _, p := range askedPrograms(t) {
		words := append(vocabulary(&p), "")
		for _, name := range namesOf(&p) {
			was := *name
			for _, *name = range words {
				if (rightsRuler{p}).asks(t) {
					granted++
				} else {
					refused++
				}
			}
			*name = was
		}
	}
	if granted == 0 || refused == 0 {
		t.Errorf("%d were granted, and %d were not", granted, refused)
	}
}

func TestRightsWithEachBodyElsewhere(t *testing.T) {
	for _, p := range askedPrograms(t) {
		for i := range p.Processes {
			was := p.Processes[i].Body
			for body := -2; body < len(p.Nodes)+2; body++ {
				p.Processes[i].Body = body
				rightsRuler{p}.asks(t)
			}
			p.Processes[i].Body = was
		}
	}
}

func TestRightsWithEachKidElsewhere(t *testing.T) {
	for _, p := range []impl.Program{fullCourt(t), fullHalls(t)} {
		for k := range p.Nodes {
			for i := range p.Nodes[k].Kids {
				was := p.Nodes[k].Kids[i]
				for _, kid := range []int{math.MinInt, -1, 0, k / 2, k - 1, k, k + 1, len(p.Nodes), math.MaxInt} {
					p.Nodes[k].Kids[i] = kid
					rightsRuler{p}.asks(t)
				}
				p.Nodes[k].Kids[i] = was
			}
		}
	}
}

func TestRightsWithEachNodeACall(t *testing.T) {
	for _, p := range []impl.Program{fullCourt(t), fullHalls(t)} {
		for k := range p.Nodes {
			was := p.Nodes[k]
			for _, name := range []string{"m", "n", "o", "p"} {
				p.Nodes[k].Kind, p.Nodes[k].Name = impl.NdCall, name
				rightsRuler{p}.asks(t)
			}
			p.Nodes[k] = was
		}
	}
}

func TestRightsWithOneListLess(t *testing.T) {
	for _, p := range askedPrograms(t) {
		for _, change := range []func(p *impl.Program){
			func(p *impl.Program) { p.Nodes = nil },
			func(p *impl.Program) { p.Nodes = p.Nodes[1:] },
			func(p *impl.Program) { p.Nodes = p.Nodes[:len(p.Nodes)-1] },
			func(p *impl.Program) { p.Monitors = nil },
			func(p *impl.Program) { p.Monitors = p.Monitors[min(1, len(p.Monitors)):] },
			func(p *impl.Program) { p.Processes = p.Processes[1:] },
			func(p *impl.Program) { p.Processes[0].Uses = nil },
		} {
			q := copied(p)
			change(&q)
			rightsRuler{q}.asks(t)
		}
	}
}

// manyVisitors has this many monitors and processes. The process at i uses the monitors at multiples of i + 1, and calls those whose place and i make a multiple of 37 together.
func manyVisitors(count int) impl.Program {
	g := grower{}
	for i := range count {
		g.p.Monitors = append(g.p.Monitors, impl.Monitor{Name: "m" + strconv.Itoa(i)})
		process := impl.Process{Name: "p"}
		calls := []int{}
		for m := count - 1; m >= 0; m-- {
			name := "m" + strconv.Itoa(m)
			if m%(i+1) == 0 {
				process.Uses = append(process.Uses, name)
			}
			if (m+i)%37 == 0 {
				calls = append(calls, g.add(impl.Node{Kind: impl.NdCall, Name: name}))
			}
		}
		process.Body = g.add(impl.Node{Kind: impl.NdBlock, Kids: calls})
		g.p.Processes = append(g.p.Processes, process)
	}
	return g.p
}

// There may be more monitors, processes and Uses than bits in any number.
func TestRightsOfManyVisitors(t *testing.T) {
	const count = 300
	p := manyVisitors(count)
	for m := range count {
		users := []int{}
		for process := range count {
			uses := m%(process+1) == 0
			if uses {
				users = append(users, process)
			}
			if got := impl.Uses(p, process, m); got != uses {
				t.Errorf("Uses at %d and %d = %v", process, m, got)
			}
		}
		if got := impl.UsersOf(p, m); !slices.Equal(got, users) {
			t.Errorf("UsersOf at %d = %v, want %v", m, got, users)
		}
		if !impl.Shared(p, m) {
			t.Errorf("Shared at %d is false", m)
		}
	}
	for process := range count {
		called := []int{}
		for m := range count {
			if (m+process)%37 == 0 {
				called = append(called, m)
			}
		}
		if got := impl.CallsOf(p, process); !slices.Equal(got, called) {
			t.Errorf("CallsOf at %d = %v, want %v", process, got, called)
		}
	}
	if impl.Granted(p) {
		t.Error("too many are granted")
	}
}

// One caller among many, wherever it stands, doesn't share; a second one does.
func TestOneCallerAmongMany(t *testing.T) {
	const count = 300
	p := impl.Program{
		Nodes:     []impl.Node{{Kind: impl.NdCall, Name: "m"}, {Kind: impl.NdSkip}},
		Monitors:  []impl.Monitor{{Name: "n"}, {Name: "m"}},
		Processes: slices.Repeat([]impl.Process{{Body: 1}}, count),
	}
	for first := range count {
		p.Processes[first].Body = 0
		if impl.Shared(p, 1) {
			t.Errorf("shared with the process at %d alone", first)
		}
		second := count - 1 - first
		p.Processes[second].Body = 0
		if impl.Shared(p, 1) != (first != second) || impl.Shared(p, 0) {
			t.Errorf("shared wrongly by the processes at %d and %d", first, second)
		}
		p.Processes[first].Body, p.Processes[second].Body = 1, 1
	}
}

func TestRightsInLongLists(t *testing.T) {
	const count = 50000
	p := impl.Program{Nodes: []impl.Node{{Kind: impl.NdCall, Name: "m"}}, Monitors: make([]impl.Monitor, count), Processes: make([]impl.Process, count)}
	p.Monitors[count-1].Name = "m"
	p.Processes[count-1].Uses = slices.Repeat([]string{"n"}, count)
	for i := range count - 1 {
		p.Processes[i].Body = -1
	}
	if impl.Uses(p, count-1, count-1) || len(impl.UsersOf(p, count-1)) > 0 {
		t.Error("used by nobody, and yet used")
	}
	p.Processes[count-1].Uses[count-1] = "m"
	if !impl.Uses(p, count-1, count-1) || !slices.Equal(impl.UsersOf(p, count-1), []int{count - 1}) {
		t.Error("used by the last process, and yet not used")
	}
	if got := impl.CallsOf(p, count-1); !slices.Equal(got, []int{count - 1}) {
		t.Errorf("the last process calls %v", got)
	}
	if impl.Shared(p, count-1) || impl.Shared(p, 0) || impl.Granted(p) {
		t.Error("shared or granted")
	}
	p.Processes[0].Body = 0
	if !impl.Shared(p, count-1) {
		t.Error("not shared by the first and the last")
	}
}

// A node that is under a body in very many ways is gone through once.
func TestRightsOfKidsOfMany(t *testing.T) {
	p := impl.Program{Nodes: []impl.Node{{Kind: impl.NdCall, Name: "m"}}, Monitors: []impl.Monitor{{Name: "m"}}}
	for k := range 9 {
		p.Nodes = append(p.Nodes, impl.Node{Kind: impl.NdBlock, Kids: slices.Repeat([]int{k}, 1000)})
	}
	p.Processes = []impl.Process{{Body: 9}, {Body: 8}}
	callsAre(t, p, 0, 0)
	sharedIs(t, p, 0, true)
}

func TestRightsLeaveProgramsAsTheyWere(t *testing.T) {
	programs := append(askedPrograms(t), chain(13), impl.Program{}, withKids([]int{-1}, nil, []int{5, 5}), manyVisitors(20))
	for _, text := range namesWithFault {
		programs = append(programs, readFrom(t, text))
	}
	for _, fresh := range programs {
		p := roomy(fresh)
		rightsRuler{p}.asks(t)
		if told(p) != told(fresh) || !roomIsLeft(p) {
			t.Errorf("a program was changed: %+v", p)
		}
		rightsRuler{p}.asks(t)
	}
}

// newEachTime asks that an answer share nothing with the next one.
func newEachTime(t *testing.T, what string, ask func() []int) {
	t.Helper()
	first, second := ask(), ask()
	want := slices.Clone(second)
	for i := range first[:cap(first)] {
		first[:cap(first)][i] = -9
	}
	if !slices.Equal(second, want) || !slices.Equal(ask(), want) {
		t.Errorf("%s shares its answer", what)
	}
}

func TestRightsAreNewMemory(t *testing.T) {
	for _, p := range askedPrograms(t) {
		was := told(p)
		for m := -1; m <= len(p.Monitors); m++ {
			newEachTime(t, "UsersOf", func() []int { return impl.UsersOf(p, m) })
		}
		for process := -1; process <= len(p.Processes); process++ {
			newEachTime(t, "CallsOf", func() []int { return impl.CallsOf(p, process) })
		}
		if told(p) != was {
			t.Errorf("an answer shares memory with %s", was)
		}
	}
}
