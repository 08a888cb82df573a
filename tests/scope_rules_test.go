package tests

import (
	"slices"
	"strings"
	"testing"

	"loop.example/g00290/impl"
)

// ruler tells the code of a program rule by rule, as the chapter lists them, without anything that the chapter's functions tell.
type ruler struct{ p impl.Program }

// alike tells whether two of these names are the same, or one is `result`.
func alike(list []string) bool {
	for i, name := range list {
		if name == "result" || slices.Contains(list[i+1:], name) {
			return true
		}
	}
	return false
}

func (r ruler) namesWrong() bool {
	monitors, processes := []string{}, []string{}
	for _, m := range r.p.Monitors {
		monitors = append(monitors, m.Name)
		entries := []string{}
		for _, entry := range m.Entries {
			entries = append(entries, entry.Name)
			if alike(slices.Concat([]string{entry.Param}, m.Queues, m.Vars)) {
				return true
			}
		}
		if alike(entries) {
			return true
		}
	}
	for _, process := range r.p.Processes {
		processes = append(processes, process.Name)
		for _, used := range process.Uses {
			if !slices.Contains(monitors, used) {
				return true
			}
		}
		if alike(process.Uses) || alike(process.Vars) {
			return true
		}
	}
	return alike(monitors) || alike(processes)
}

// bodyOver is the body in which a node stands.
func (r ruler) bodyOver(k int) int {
	for at := k + 1; at < len(r.p.Nodes); at++ {
		if slices.Contains(r.p.Nodes[at].Kids, k) {
			return r.bodyOver(at)
		}
	}
	return k
}

func (r ruler) codeInEntry(m impl.Monitor, entry impl.Entry, node impl.Node) int {
	switch node.Kind {
	case impl.NdCall, impl.NdRead:
		return impl.ScPlace
	case impl.NdVar, impl.NdSet:
		if node.Name != "result" && node.Name != entry.Param && !slices.Contains(m.Vars, node.Name) {
			return impl.ScVar
		}
	case impl.NdDelay, impl.NdCont:
		if !slices.Contains(m.Queues, node.Name) {
			return impl.ScQueue
		}
	}
	return 0
}

func (r ruler) codeInProcess(process impl.Process, node impl.Node) int {
	isVar := slices.Contains(process.Vars, node.Name)
	switch node.Kind {
	case impl.NdDelay, impl.NdCont:
		return impl.ScPlace
	case impl.NdVar, impl.NdSet, impl.NdRead:
		if !isVar {
			return impl.ScVar
		}
	case impl.NdCall:
		if node.To != "" && !slices.Contains(process.Vars, node.To) {
			return impl.ScVar
		}
		for _, m := range r.p.Monitors {
			for _, entry := range m.Entries {
				if m.Name == node.Name && entry.Name == node.More && slices.Contains(process.Uses, m.Name) {
					return 0
				}
			}
		}
		return impl.ScCall
	}
	return 0
}

func (r ruler) codeAt(k int) int {
	body, node := r.bodyOver(k), r.p.Nodes[k]
	for _, m := range r.p.Monitors {
		for _, entry := range m.Entries {
			if entry.Body == body {
				return r.codeInEntry(m, entry, node)
			}
		}
	}
	for _, process := range r.p.Processes {
		if process.Body == body {
			return r.codeInProcess(process, node)
		}
	}
	return -1
}

func (r ruler) code() int {
	if !impl.ProgramOk(r.p) || r.namesWrong() {
		return impl.ScNames
	}
	for k := range r.p.Nodes {
		if code := r.codeAt(k); code != 0 {
			return code
		}
	}
	return 0
}

// counted asks for the code that the rules tell, and counts it.
type counted struct{ codes [6]int }

func (c *counted) asks(t *testing.T, p impl.Program) {
	t.Helper()
	want := ruler{p}.code()
	if want < 0 {
		t.Fatalf("a node in no body of %+v", p)
	}
	c.codes[want]++
	if got := impl.ScopeOf(p); got != want {
		t.Errorf("ScopeOf %+v = %d, want %d", p, got, want)
	}
}

// met asks that each of these codes have been there, so that the rules were all asked for.
func (c *counted) met(t *testing.T, codes ...int) {
	t.Helper()
	for _, code := range codes {
		if c.codes[code] == 0 {
			t.Errorf("no program with the code %d: %v", code, c.codes)
		}
	}
}

// fullHalls is the program of all right statements that find room.
func fullHalls(t *testing.T) impl.Program {
	t.Helper()
	return readFrom(t, strings.NewReplacer(
		"ENTRY", "u := x ; result := v ; delay q ; if u then begin continue r end",
		"PROCESS", "read c ; call m . e ( c ) to d ; while d do begin call m . f ( 1 ) end",
	).Replace(halls))
}

// vocabulary is all names of a program, and some that are not in it.
func vocabulary(p *impl.Program) []string {
	list := []string{"result", "o", "results", "A"}
	for _, name := range namesOf(p) {
		list = append(list, *name)
	}
	slices.Sort(list)
	return slices.Compact(list)
}

func TestEachNameInEachPlace(t *testing.T) {
	c := counted{}
	for _, p := range []impl.Program{fullHalls(t), readFrom(t, everyKind), largest()} {
		c.asks(t, p)
		words := vocabulary(&p)
		for _, name := range namesOf(&p) {
			was := *name
			for _, *name = range words {
				c.asks(t, p)
			}
			*name = was
		}
	}
	c.met(t, 0, impl.ScNames, impl.ScVar, impl.ScQueue, impl.ScCall, impl.ScPlace)
}

func TestTwoNamesInTwoPlaces(t *testing.T) {
	c := counted{}
	p := fullHalls(t)
	places := namesOf(&p)
	for i, first := range places {
		for j, second := range places[:i] {
			wasFirst, wasSecond := *first, *second
			*first, *second = wasSecond, wasFirst
			c.asks(t, p)
			*first = "o"
			c.asks(t, p)
			*first, *second = []string{"u", "q", "m", "c"}[i%4], []string{"c", "x", "e", "n", "q"}[j%5]
			c.asks(t, p)
			*first, *second = wasFirst, wasSecond
		}
	}
	c.met(t, 0, impl.ScNames, impl.ScVar, impl.ScQueue, impl.ScCall)
}

func TestCallsToEachName(t *testing.T) {
	c := counted{}
	p := fullHalls(t)
	words := append(vocabulary(&p), "")
	for k := range p.Nodes {
		was := p.Nodes[k]
		if was.Kind != impl.NdCall {
			continue
		}
		for _, p.Nodes[k].To = range words {
			for _, p.Nodes[k].Name = range words {
				c.asks(t, p)
				p.Nodes[k].More = "g"
				c.asks(t, p)
				p.Nodes[k].More = was.More
			}
		}
		p.Nodes[k] = was
	}
	c.met(t, 0, impl.ScNames, impl.ScVar, impl.ScCall)
}

// Statements of a name alone stand for what did nothing.
func TestEachStatementOfANameInEachBody(t *testing.T) {
	c := counted{}
	for _, p := range []impl.Program{readFrom(t, inEntry("skip ; skip")), readFrom(t, inProcess("skip ; skip"))} {
		words := vocabulary(&p)
		for first := range p.Nodes {
			for second := range p.Nodes {
				for _, kind := range []int{impl.NdRead, impl.NdDelay, impl.NdCont} {
					for _, name := range words {
						q := copied(p)
						instead(q, second, impl.Node{Kind: impl.NdDelay, Name: "q"})
						instead(q, first, impl.Node{Kind: kind, Name: name})
						c.asks(t, q)
					}
				}
			}
		}
	}
	c.met(t, 0, impl.ScNames, impl.ScVar, impl.ScQueue, impl.ScPlace)
}

// instead puts another statement where one stands that does nothing.
func instead(p impl.Program, k int, node impl.Node) {
	if p.Nodes[k].Kind == impl.NdSkip {
		p.Nodes[k] = node
	}
}

// Bodies that change their places take their nodes to other names.
func TestBodiesOfOthers(t *testing.T) {
	c := counted{}
	for _, p := range []impl.Program{fullHalls(t), readFrom(t, inEntry("skip")), readFrom(t, everyKind)} {
		bodies := bodiesOf(&p)
		for i := range bodies {
			for j := range bodies {
				*bodies[i], *bodies[j] = *bodies[j], *bodies[i]
				c.asks(t, p)
			}
		}
	}
	c.met(t, 0, impl.ScPlace, impl.ScVar)
}

// withRoom is a list with one more behind its end.
func withRoom[T any](list []T, behind T) []T {
	return append(slices.Clone(list), behind)[:len(list)]
}

// behindEnd is what stands behind a list's end.
func behindEnd[T any](list []T) T { return list[:len(list)+1][len(list)] }

// roomy is a program in new memory, with room behind all its lists.
func roomy(p impl.Program) impl.Program {
	p = copied(p)
	for k := range p.Nodes {
		p.Nodes[k].Kids = withRoom(p.Nodes[k].Kids, 77)
	}
	for i := range p.Monitors {
		m := &p.Monitors[i]
		m.Vars, m.Queues = withRoom(m.Vars, "room"), withRoom(m.Queues, "room")
		m.Entries = withRoom(m.Entries, impl.Entry{Name: "room", Body: 77})
	}
	for i := range p.Processes {
		process := &p.Processes[i]
		process.Uses, process.Vars = withRoom(process.Uses, "room"), withRoom(process.Vars, "room")
	}
	p.Nodes = withRoom(p.Nodes, impl.Node{Kind: 77})
	p.Monitors = withRoom(p.Monitors, impl.Monitor{Name: "room"})
	p.Processes = withRoom(p.Processes, impl.Process{Name: "room"})
	return p
}

// roomIsLeft tells whether behind all lists of a roomy program stands what stood there.
func roomIsLeft(p impl.Program) bool {
	left := behindEnd(p.Nodes).Kind == 77 && behindEnd(p.Monitors).Name == "room" && behindEnd(p.Processes).Name == "room"
	for _, node := range p.Nodes {
		left = left && behindEnd(node.Kids) == 77
	}
	for _, m := range p.Monitors {
		left = left && behindEnd(m.Vars) == "room" && behindEnd(m.Queues) == "room" && behindEnd(m.Entries) == impl.Entry{Name: "room", Body: 77}
	}
	for _, process := range p.Processes {
		left = left && behindEnd(process.Uses) == "room" && behindEnd(process.Vars) == "room"
	}
	return left
}

func TestScopesLeaveProgramsAsTheyWere(t *testing.T) {
	texts := append([]string{everyKind, inEntry("delay o"), inProcess("call m . e ( 1 ) to o")}, namesWithFault...)
	programs := []impl.Program{fullHalls(t), largest(), chain(13), {}, withKids([]int{-1}, nil, []int{5, 5})}
	for _, text := range texts {
		programs = append(programs, readFrom(t, text))
	}
	for _, fresh := range programs {
		p := roomy(fresh)
		first := impl.ScopeOf(p)
		for k := -1; k <= len(p.Nodes); k++ {
			impl.NodesUnder(p, k)
		}
		for _, name := range vocabulary(&p) {
			impl.MonitorAt(p, name)
			for m := -1; m <= len(p.Monitors); m++ {
				impl.EntryAt(p, m, name)
			}
		}
		for _, process := range p.Processes {
			impl.Unlike(process.Vars)
		}
		if told(p) != told(fresh) || !roomIsLeft(p) {
			t.Errorf("a program was changed: %+v", p)
		}
		if again := impl.ScopeOf(p); again != first {
			t.Errorf("ScopeOf %+v = %d, and then %d", p, first, again)
		}
	}
}
