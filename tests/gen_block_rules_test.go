package tests

import (
	"fmt"
	"slices"
	"strings"
	"testing"

	"loop.example/g00290/impl"
)

// statementRules are what the chapter says of each statement, part by part: `+a` takes a new label, `a:` is its place, and a word with `>a` aims at it.
var statementRules = map[int]string{
	impl.NdSet:   "value store",
	impl.NdIf:    "value +a 7>a first +b 8>b a: second b:",
	impl.NdWhile: "+a a: value +b 7>b first 8>a b:",
	impl.NdPrint: "value sys5",
	impl.NdRead:  "sys6 store",
	impl.NdSkip:  "",
	impl.NdCall:  "outside value toarg clear toresult +a lock enter entry lock leave a: fetch",
	impl.NdDelay: "lock delay",
	impl.NdCont:  "lock cont back",
}

const lockRule = "+c +d c: test 7>d 8>c d:"

// scribe puts what the rules say, part by part.
type scribe struct {
	p       impl.Program
	gen     impl.Gen
	process int
}

// inside is where a block is: the names that it has, its monitor, and the way out.
type inside struct {
	x       impl.Places
	monitor int
	back    string
}

func (s *scribe) line(l impl.Line) {
	if !s.gen.Bad {
		s.gen.Lines = append(s.gen.Lines, l)
	}
}

// needs is false, and all goes wrong, when something is not there.
func (s *scribe) needs(there bool) {
	if !there {
		s.gen.Bad = true
	}
}

// numbered is how the chapter tells the label of a number.
func numbered(n int) string {
	if n < 0 {
		return "l0"
	}
	return fmt.Sprintf("l%d", n)
}

func (s *scribe) sys(a, c int) { s.line(plain(impl.InSys, a, 0, c)) }

func (s *scribe) memory(op, at int) {
	s.needs(at >= 0)
	s.line(plain(op, 0, 0, at))
}

// kidAt is the place of one of a node's kids that is ahead of it; -1 without it.
func (s *scribe) kidAt(k, i int) int {
	kids := s.p.Nodes[k].Kids
	if i >= len(kids) || kids[i] < 0 || kids[i] >= k {
		return -1
	}
	return kids[i]
}

func (s *scribe) block(k int, in inside) {
	s.needs(0 <= k && k < len(s.p.Nodes) && s.p.Nodes[k].Kind == impl.NdBlock)
	if s.gen.Bad {
		return
	}
	for i := range s.p.Nodes[k].Kids {
		at := s.kidAt(k, i)
		s.needs(at >= 0)
		if s.gen.Bad {
			return
		}
		rule, found := statementRules[s.p.Nodes[at].Kind]
		s.needs(found)
		s.parts(rule, at, in)
	}
}

func (s *scribe) parts(rule string, k int, in inside) {
	labels := map[string]string{}
	for part := range strings.FieldsSeq(rule) {
		// A register is not told: 7 aims at d in a lock alone.
		op, aim, aims := strings.Cut(part, ">")
		switch {
		case part[0] == '+':
			labels[part[1:]] = numbered(s.gen.Next)
			s.gen.Next++
		case strings.HasSuffix(part, ":"):
			s.line(mark(labels[part[:1]]))
		case aims && op == "8":
			s.line(aimed(labels[aim], impl.InJump, 0, 0, 0))
		case aims && aim == "d":
			s.line(aimed(labels[aim], impl.InZero, 7, 0, 0))
		case aims:
			s.line(aimed(labels[aim], impl.InZero, 0, 0, 0))
		case part == "lock":
			s.parts(lockRule, k, in)
		default:
			s.part(part, k, in, labels["a"])
		}
	}
}

// part is one that takes no label and aims at none; label is that of the way out of a call.
func (s *scribe) part(part string, k int, in inside, label string) {
	node := s.p.Nodes[k]
	m := s.monitor(node.Name)
	switch part {
	case "value":
		of, ok := impl.GenValue(s.p, s.kidAt(k, 0), in.x, 0)
		s.needs(ok)
		for _, l := range of {
			s.line(l)
		}
	case "store":
		s.memory(impl.InStore, placeByTheRules(in.x, node.Name))
	case "sys5":
		s.sys(5, 0)
	case "sys6":
		s.sys(6, 0)
	case "test":
		s.line(plain(impl.InTest, 7, 0, 0))
	case "outside":
		s.needs(in.monitor < 0)
	case "toarg":
		s.memory(impl.InStore, impl.ArgAt(s.p, s.process))
	case "clear":
		s.line(plain(impl.InPut, 0, 0, 0))
	case "toresult":
		s.memory(impl.InStore, impl.ResultAt(s.p, s.process))
	case "enter", "leave":
		s.needs(m >= 0)
		s.sys(1+truth(part == "leave"), m)
	case "delay", "cont":
		s.queue(3+truth(part == "cont"), node.Name, in.monitor)
	case "back":
		s.line(aimed(in.back, impl.InJump, 0, 0, 0))
	case "first":
		s.block(s.kidAt(k, 1), in)
	case "second":
		if len(node.Kids) > 2 {
			s.block(s.kidAt(k, 2), in)
		}
	case "entry":
		s.entry(m, node.More, label)
	case "fetch":
		if node.To != "" {
			s.memory(impl.InLoad, impl.ResultAt(s.p, s.process))
			s.memory(impl.InStore, placeByTheRules(in.x, node.To))
		}
	}
}

// monitor is the place of the first one of this name.
func (s *scribe) monitor(name string) int {
	for m := range s.p.Monitors {
		if s.p.Monitors[m].Name == name {
			return m
		}
	}
	return -1
}

func (s *scribe) queue(call int, name string, monitor int) {
	s.needs(0 <= monitor && monitor < len(s.p.Monitors))
	if s.gen.Bad {
		return
	}
	for i, queue := range s.p.Monitors[monitor].Queues {
		if queue == name {
			s.sys(call, monitor+monitor+i)
			return
		}
	}
	s.needs(false)
}

func (s *scribe) entry(m int, name, label string) {
	if s.gen.Bad {
		return
	}
	for e, entry := range s.p.Monitors[m].Entries {
		if entry.Name == name {
			s.block(entry.Body, inside{impl.EntryPlaces(s.p, s.process, m, e), m, label})
			return
		}
	}
	s.needs(false)
}

// blockByTheRules asks for what the rules say of a block, and tells whether it goes well.
func blockByTheRules(t *testing.T, p impl.Program, g impl.Gen, process, k int, x impl.Places, monitor int, back string) bool {
	t.Helper()
	s := scribe{p: p, gen: impl.Gen{Lines: slices.Clone(g.Lines), Next: g.Next, Bad: g.Bad}, process: process}
	s.block(k, inside{x, monitor, back})
	got := impl.GenBlock(p, g, process, k, x, monitor, back)
	if !sameGen(got, s.gen) {
		t.Fatalf("GenBlock of %d at %d of %.3000s, monitor %d, with %s\nis   %s\nwant %s", process, k, told(p), monitor, placesTold(x), genTold(got), genTold(s.gen))
	}
	return !got.Bad
}

// allBlocksByTheRules asks it of each node of a program, by each process and in each monitor; it tells how often it went well, and how often not.
func allBlocksByTheRules(t *testing.T, p impl.Program) (well, bad int) {
	t.Helper()
	g := impl.Gen{Lines: fill(3), Next: 5}
	for k := -1; k <= len(p.Nodes); k++ {
		for process := -1; process <= len(p.Processes); process++ {
			ok := blockByTheRules(t, p, g, process, k, impl.OwnPlaces(p, process), -1, "")
			well, bad = well+truth(ok), bad+truth(!ok)
			for m := range len(p.Monitors) + 1 {
				ok := blockByTheRules(t, p, g, process, k, impl.EntryPlaces(p, process, m, 0), m, "out")
				well, bad = well+truth(ok), bad+truth(!ok)
			}
		}
	}
	return well, bad
}

func TestProgramsByTheRulesOfBlocks(t *testing.T) {
	for _, p := range append(askedPrograms(t), readFrom(t, theInn), readFrom(t, theShelf+"."), yardWith(t, "call m . e ( 3 ) to v"), deepProgram(10), chain(13), impl.Program{}) {
		allBlocksByTheRules(t, p)
	}
}

func TestWrittenProgramsByTheRulesOfBlocks(t *testing.T) {
	whole, well, bad := 0, 0, 0
	for seed := range 300 {
		a := &author{sown{turn: seed * 17}}
		p, fault := impl.ReadProgram(a.text())
		if fault != 0 {
			continue
		}
		for i, process := range p.Processes {
			if !blockByTheRules(t, p, impl.Gen{}, i, process.Body, impl.OwnPlaces(p, i), -1, "") {
				t.Fatalf("a program that is granted has no words: %.2000s", told(p))
			}
			whole++
		}
		some, none := allBlocksByTheRules(t, p)
		well, bad = well+some, bad+none
	}
	if whole < 200 || well < 2000 || bad < 2000 {
		t.Errorf("%d have words, %d of all blocks have some, %d have none", whole, well, bad)
	}
}

// spoiledProgram is one in which nodes, bodies and names were exchanged.
func spoiledProgram(t *testing.T, seed int) impl.Program {
	t.Helper()
	p := copied(yard(t, map[string]string{
		"ENTRY": "if x < u then begin delay p ; v := x end else begin while u do begin u := u - 1 ; continue p end end ; result := x",
		"GATE":  "print c ; if c then begin skip ; continue r end ; delay q", "FIRST": "read v ; call m . e ( v + 1 ) to v ; call n . g ( v )",
		"SECOND": "while v < 3 do begin call n . f ( w ) to v ; if not w then begin print - v end else begin read w end end ; call m . f ( 1 ) ; w := v",
	}))
	s := sown{turn: seed}
	for range 1 + s.pick(3) {
		node := &p.Nodes[s.pick(len(p.Nodes))]
		switch s.pick(7) {
		case 0:
			node.Kind = append(list(1, 2, 3, 4, 5, 11, 12, 13, 14, 15, 16, 17, 18, 19, 20), notKinds...)[s.pick(15+len(notKinds))]
		case 1:
			node.Kids = node.Kids[:s.pick(len(node.Kids)+1)]
		case 2, 3:
			at := s.pick(len(node.Kids) + 1)
			node.Kids = append(slices.Clone(node.Kids[:at]), s.pick(len(p.Nodes)+3)-2)
		case 4:
			node.Name, node.To = vocabulary(&p)[s.pick(len(vocabulary(&p)))], vocabulary(&p)[s.pick(len(vocabulary(&p)))]
		case 5:
			*bodiesOf(&p)[s.pick(len(bodiesOf(&p)))] = s.pick(len(p.Nodes)+2) - 1
		default:
			*namesOf(&p)[s.pick(len(namesOf(&p)))] = vocabulary(&p)[s.pick(len(vocabulary(&p)))]
		}
	}
	return p
}

func TestSpoiledProgramsByTheRulesOfBlocks(t *testing.T) {
	well, bad, whole, broken := 0, 0, 0, 0
	for seed := range 3000 {
		p := spoiledProgram(t, seed*3)
		for process := range p.Processes {
			ok := blockByTheRules(t, p, impl.Gen{}, process, p.Processes[process].Body, impl.OwnPlaces(p, process), -1, "")
			whole, broken = whole+truth(ok), broken+truth(!ok)
		}
		if seed%30 == 0 {
			some, none := allBlocksByTheRules(t, p)
			well, bad = well+some, bad+none
		}
	}
	if well < 1000 || bad < 1000 || whole < 1000 || broken < 1000 {
		t.Errorf("%d and %d went well, %d and %d did not", whole, well, broken, bad)
	}
}

func TestBlocksLeaveAllAsItWas(t *testing.T) {
	for seed := range 60 {
		fresh := spoiledProgram(t, seed)
		if seed%2 == 0 {
			fresh = yard(t, map[string]string{"ENTRY": "delay p ; result := x", "GATE": "continue q", "SECOND": "call m . e ( v ) to w ; call n . g ( 1 ) ; if v then begin print 2 end ; v := none"})
		}
		p, x := withRooms(fresh), withRooms(impl.OwnPlaces(fresh, 1))
		g := withRooms(impl.Gen{Lines: fill(seed % 4), Next: seed, Bad: seed%7 == 0})
		was := fmt.Sprint(toldWithRoom(p), toldWithRoom(x), toldWithRoom(g))
		for k := -1; k <= len(p.Nodes); k++ {
			for monitor := -1; monitor < 2; monitor++ {
				of := impl.GenBlock(p, g, 1, k, x, monitor, "out")
				tight := impl.GenBlock(fresh, impl.Gen{Lines: fill(seed % 4), Next: g.Next, Bad: g.Bad}, 1, k, impl.OwnPlaces(fresh, 1), monitor, "out")
				genAgrees(t, "a block with room behind its lists", of, tight)
				isNewMemory(t, "GenBlock", of, p, x, g, tight)
				spoilLines(of.Lines)
				genAgrees(t, "a block again", impl.GenBlock(p, g, 1, k, x, monitor, "out"), tight)
			}
		}
		lock := impl.GenLock(g)
		isNewMemory(t, "GenLock", lock, g, impl.GenLock(g))
		spoilLines(lock.Lines)
		if fmt.Sprint(toldWithRoom(p), toldWithRoom(x), toldWithRoom(g)) != was {
			t.Fatalf("what came in was changed to %.2000s", toldWithRoom(p))
		}
	}
}

// However long a block is, and however deep, its words come to an end.
func TestLongBlocks(t *testing.T) {
	g := grower{}
	prints := []int{}
	for n := range 50000 {
		prints = append(prints, g.add(plainNode(impl.NdPrint, g.number(n%9).place)))
	}
	body := g.add(plainNode(impl.NdBlock, prints...))
	of := impl.GenBlock(g.p, impl.Gen{Lines: fill(300000)}, 0, body, impl.Places{}, -1, "")
	if of.Bad || len(of.Lines) != 400000 || of.Lines[399998].Ins != insOf(impl.InPut, 0, 0, 49999%9) || of.Next != 0 {
		t.Errorf("50000 prints are %d lines, %v", len(of.Lines), of.Bad)
	}
	deep := ifsWithin(50000)
	of = impl.GenBlock(deep, impl.Gen{}, 0, len(deep.Nodes)-1, impl.Places{}, -1, "")
	if of.Bad || len(of.Lines) != 250000 || of.Next != 100000 {
		t.Errorf("50000 ifs within each other are %d lines, %v", len(of.Lines), of.Bad)
	}
	deep = ifsWithin(600000)
	of = impl.GenBlock(deep, impl.Gen{}, 0, len(deep.Nodes)-1, impl.Places{}, -1, "")
	if of.Bad && len(of.Lines) == 0 {
		t.Error("600000 ifs within each other have no words")
	}
}

// Blocks that stand many times in each other have more words than any memory has room for: some are put, and that is told.
func TestBlocksThatStandManyTimes(t *testing.T) {
	p := impl.Program{Nodes: []impl.Node{{Kind: impl.NdNum}, {Kind: impl.NdSkip}, {Kind: impl.NdBlock, Kids: slices.Repeat(list(1), 1000)}}}
	for range 60 {
		k := len(p.Nodes)
		p.Nodes = append(p.Nodes, impl.Node{Kind: impl.NdIf, Kids: list(0, k-1, k-1)}, impl.Node{Kind: impl.NdBlock, Kids: list(k, k)})
	}
	for _, k := range list(4, 6, 8, 122) {
		of := impl.GenBlock(p, impl.Gen{Next: 3}, 0, k, impl.Places{}, -1, "")
		if ifs := k/2 - 1; of.Bad != (k == 122) || k < 9 && of.Next != 3+2*[...]int{0, 2, 10, 42}[ifs] || !slices.Equal(of.Lines[:2], codeOf("1 0 0 0, 7 0 0 0 >l3")) {
			t.Errorf("the block at %d is %d lines, %v, with labels up to %d", k, len(of.Lines), of.Bad, of.Next)
		}
	}
	p.Nodes[len(p.Nodes)-1].Kids = slices.Repeat(list(1), 400000)
	if of := impl.GenBlock(p, impl.Gen{}, 0, len(p.Nodes)-1, impl.Places{}, -1, ""); !sameGen(of, impl.Gen{}) {
		t.Errorf("400000 times nothing are %s", genTold(of))
	}
}
