package tests

import (
	"math"
	"reflect"
	"regexp"
	"slices"
	"strings"
	"testing"

	"loop.example/g00290/impl"
)

// nodeKinds are the kinds of nodes, each with what stands as its kids: v a value, s a statement, b a block, ? none of these.
var nodeKinds = []struct {
	kind int
	as   byte
	kids string
}{
	{impl.NdNum, 'v', "^$"},
	{impl.NdVar, 'v', "^$"},
	{impl.NdCalc, 'v', "^vv$"},
	{impl.NdNot, 'v', "^v$"},
	{impl.NdNeg, 'v', "^v$"},
	{impl.NdSet, 's', "^v$"},
	{impl.NdIf, 's', "^vbb?$"},
	{impl.NdWhile, 's', "^vb$"},
	{impl.NdCall, 's', "^v$"},
	{impl.NdPrint, 's', "^v$"},
	{impl.NdRead, 's', "^$"},
	{impl.NdDelay, 's', "^$"},
	{impl.NdCont, 's', "^$"},
	{impl.NdSkip, 's', "^$"},
	{impl.NdBlock, 'b', "^s{1,12}$"},
}

// notKinds are no kinds of nodes.
var notKinds = []int{math.MinInt, -20, -1, 0, 6, 7, 8, 9, 10, 21, 22, 30, 256 + impl.NdSkip, math.MaxInt}

// notNames are no right names; the empty one is left out, since it may stand in some places.
var notNames = []string{
	"monitor", "begin", "not", "skip", "to", "A", "aB", "Xy", "abcdefghi", "nine.let", " a", "a ", "a1", "1", "a_b", "\x00", "ä", "\xff", "a\n", strings.Repeat("a", 300),
}

// plainNode is a right node of a kind, but for its kids.
func plainNode(kind int, kids ...int) impl.Node {
	node := impl.Node{Kind: kind, Kids: kids}
	switch kind {
	case impl.NdCalc:
		node.Num = impl.OpAdd
	case impl.NdVar, impl.NdSet, impl.NdRead, impl.NdDelay, impl.NdCont:
		node.Name = "x"
	case impl.NdCall:
		node.Name, node.More = "m", "e"
	}
	return node
}

// shelf is a program with nodes of every sort to be kids, 14 of each; what is asked for is put behind them.
type shelf struct {
	p     impl.Program
	first map[byte]int
}

const eachOnShelf = 14

func newShelf() shelf {
	s := shelf{first: map[byte]int{}}
	for _, sort := range []struct {
		as   byte
		kind int
	}{{'v', impl.NdNum}, {'s', impl.NdSkip}, {'b', impl.NdBlock}, {'?', 0}} {
		s.first[sort.as] = len(s.p.Nodes)
		for range eachOnShelf {
			s.p.Nodes = append(s.p.Nodes, impl.Node{Kind: sort.kind})
		}
	}
	return s
}

// kids are places of nodes of these sorts, no two the same.
func (s shelf) kids(sorts string) []int {
	places := []int{}
	for i := range len(sorts) {
		places = append(places, s.first[sorts[i]]+i)
	}
	return places
}

// asks whether a node behind the shelf's is right; a value, a statement and a block are behind it.
func (s shelf) asks(t *testing.T, node impl.Node, want bool) {
	t.Helper()
	p := s.p
	p.Nodes = append(slices.Clone(p.Nodes), node, impl.Node{Kind: impl.NdNum}, impl.Node{Kind: impl.NdSkip}, impl.Node{Kind: impl.NdBlock})
	if got := impl.NodeOk(p, len(s.p.Nodes)); got != want {
		t.Errorf("NodeOk of %+v = %v, want %v", node, got, want)
	}
}

// someKids are kids with which a node of each kind is right.
func someKids(kind int) string {
	return map[int]string{
		impl.NdCalc: "vv", impl.NdNot: "v", impl.NdNeg: "v", impl.NdSet: "v", impl.NdIf: "vbb", impl.NdWhile: "vb",
		impl.NdCall: "v", impl.NdPrint: "v", impl.NdBlock: "sss",
	}[kind]
}

func TestTreeConstants(t *testing.T) {
	got := []int{
		impl.NdNum, impl.NdVar, impl.NdCalc, impl.NdNot, impl.NdNeg, impl.NdSet, impl.NdIf, impl.NdWhile, impl.NdCall, impl.NdPrint,
		impl.NdRead, impl.NdDelay, impl.NdCont, impl.NdSkip, impl.NdBlock, impl.MaxNodes, impl.MaxDeep,
	}
	if want := []int{1, 2, 3, 4, 5, 11, 12, 13, 14, 15, 16, 17, 18, 19, 20, 160, 10}; !slices.Equal(got, want) {
		t.Errorf("constants are %v, want %v", got, want)
	}
}

func TestNodesOfEachKind(t *testing.T) {
	s := newShelf()
	for _, k := range nodeKinds {
		s.asks(t, plainNode(k.kind, s.kids(someKids(k.kind))...), true)
	}
	s.asks(t, plainNode(impl.NdIf, s.kids("vb")...), true)
}

func TestNodesOfNoKind(t *testing.T) {
	s := newShelf()
	for _, kind := range notKinds {
		for _, kids := range []string{"", "v", "vv", "vb", "vbb", "s"} {
			s.asks(t, impl.Node{Kind: kind, Kids: s.kids(kids)}, false)
			s.asks(t, impl.Node{Kind: kind, Name: "x", Kids: s.kids(kids)}, false)
		}
	}
}

// everySort is every list of this many sorts.
func everySort(size int) []string {
	if size == 0 {
		return []string{""}
	}
	all := []string{}
	for _, ahead := range everySort(size - 1) {
		for _, sort := range "vsb?" {
			all = append(all, ahead+string(sort))
		}
	}
	return all
}

func TestEverySortOfKids(t *testing.T) {
	s := newShelf()
	for _, k := range nodeKinds {
		wants := regexp.MustCompile(k.kids)
		for size := range 5 {
			for _, sorts := range everySort(size) {
				s.asks(t, plainNode(k.kind, s.kids(sorts)...), wants.MatchString(sorts))
			}
		}
	}
}

func TestEachKindAsAKid(t *testing.T) {
	for _, parent := range nodeKinds {
		sorts := someKids(parent.kind)
		for i := range len(sorts) {
			for _, kid := range nodeKinds {
				s := newShelf()
				kids := s.kids(sorts)
				s.p.Nodes[kids[i]].Kind = kid.kind
				s.asks(t, plainNode(parent.kind, kids...), kid.as == sorts[i])
			}
		}
	}
}

func TestSizeOfBlocks(t *testing.T) {
	s := newShelf()
	for size := range eachOnShelf + 1 {
		kids := s.kids(strings.Repeat("s", size))
		s.asks(t, plainNode(impl.NdBlock, kids...), 1 <= size && size <= 12)
	}
	many, kids := impl.Program{}, []int{}
	for k := range 50000 {
		many.Nodes = append(many.Nodes, plainNode(impl.NdSkip))
		kids = append(kids, k)
	}
	many.Nodes = append(many.Nodes, plainNode(impl.NdBlock, kids...))
	last := len(kids)
	if impl.NodeOk(many, last) {
		t.Error("a block of many statements is right")
	}
}

func TestPlacesOfKids(t *testing.T) {
	for _, k := range nodeKinds {
		s := newShelf()
		sorts := someKids(k.kind)
		place := len(s.p.Nodes)
		for i := range len(sorts) {
			behind := place + 1 + strings.IndexByte("vsb", sorts[i])
			for _, wrong := range []int{place, behind, -1, place + 4, place + 5, math.MinInt, math.MaxInt, -place} {
				kids := s.kids(sorts)
				kids[i] = wrong
				s.asks(t, plainNode(k.kind, kids...), false)
			}
			kids := s.kids(sorts)
			kids[i] = s.first[sorts[i]] + eachOnShelf - 1
			s.asks(t, plainNode(k.kind, kids...), true)
		}
	}
}

func TestTheSameKidTwice(t *testing.T) {
	s := newShelf()
	v, b, st := s.first['v'], s.first['b'], s.first['s']
	s.asks(t, plainNode(impl.NdCalc, v, v), false)
	s.asks(t, plainNode(impl.NdCalc, v, v+1), true)
	s.asks(t, plainNode(impl.NdCalc, v+1, v), true)
	s.asks(t, plainNode(impl.NdIf, v, b, b), false)
	s.asks(t, plainNode(impl.NdIf, v, b+1, b), true)
	for i := range 12 {
		for j := range i {
			kids := s.kids(strings.Repeat("s", 12))
			kids[i] = kids[j]
			s.asks(t, plainNode(impl.NdBlock, kids...), false)
		}
	}
	s.asks(t, plainNode(impl.NdBlock, st, st), false)
}

func TestABlockThatIsItsOwnKid(t *testing.T) {
	p := impl.Program{Nodes: []impl.Node{{Kind: impl.NdBlock, Kids: []int{0}}, {Kind: impl.NdNot, Kids: []int{1}}, {Kind: impl.NdNeg, Kids: []int{3}}, {Kind: impl.NdNeg, Kids: []int{2}}}}
	for k, want := range []bool{false, false, false, true} {
		if got := impl.NodeOk(p, k); got != want {
			t.Errorf("NodeOk at %d = %v, want %v", k, got, want)
		}
	}
}

func TestNumsOfNodes(t *testing.T) {
	s := newShelf()
	nums := []int{math.MinInt, -impl.MaxVal - 1, -impl.MaxVal, -2, -1, 0, 1, 2, 3, 4, 5, 6, 7, 8, 9, 10, 11, 999999, impl.MaxVal, impl.MaxVal + 1, 1 << 32, math.MaxInt}
	for _, k := range nodeKinds {
		for _, num := range nums {
			node := plainNode(k.kind, s.kids(someKids(k.kind))...)
			node.Num = num
			want := num == 0
			switch k.kind {
			case impl.NdNum:
				want = 0 <= num && num <= 1000000
			case impl.NdCalc:
				want = 1 <= num && num <= 9
			}
			s.asks(t, node, want)
		}
	}
}

// textFields are the texts of a node, each with the kinds in which a name stands there.
func textFields(node *impl.Node) map[*string][]int {
	return map[*string][]int{
		&node.Name: {impl.NdVar, impl.NdSet, impl.NdRead, impl.NdDelay, impl.NdCont, impl.NdCall},
		&node.More: {impl.NdCall},
		&node.To:   {impl.NdCall},
	}
}

func TestNamesOfNodes(t *testing.T) {
	s := newShelf()
	for _, k := range nodeKinds {
		node := plainNode(k.kind, s.kids(someKids(k.kind))...)
		for field, kinds := range textFields(&node) {
			was := *field
			stands := slices.Contains(kinds, k.kind)
			for _, name := range []string{"a", "z", "x", "abcdefgh", "monitors", "begi"} {
				*field = name
				s.asks(t, node, stands)
			}
			for _, name := range notNames {
				*field = name
				s.asks(t, node, false)
			}
			*field = ""
			s.asks(t, node, !stands || field == &node.To)
			*field = was
		}
	}
}

func TestPlacesWithoutNodes(t *testing.T) {
	p := smallest()
	for _, k := range []int{math.MinInt, -3, -1, 2, 3, math.MaxInt} {
		if impl.NodeOk(p, k) || impl.DeepOf(p, k) != 0 {
			t.Errorf("at %d: %v, %d; want false, 0", k, impl.NodeOk(p, k), impl.DeepOf(p, k))
		}
	}
	for _, k := range []int{-1, 0, 1} {
		if empty := (impl.Program{}); impl.NodeOk(empty, k) || impl.DeepOf(empty, k) != 0 {
			t.Errorf("at %d of no nodes: %v, %d; want false, 0", k, impl.NodeOk(empty, k), impl.DeepOf(empty, k))
		}
	}
}

// chain is a number and as many nodes on it, each the kid of the next, as make it so deep.
func chain(deep int) impl.Program {
	p := impl.Program{Nodes: []impl.Node{{Kind: impl.NdNum}}}
	for k := range deep - 1 {
		p.Nodes = append(p.Nodes, impl.Node{Kind: impl.NdNot, Kids: []int{k}})
	}
	return p
}

func hasDeep(t *testing.T, p impl.Program, want ...int) {
	t.Helper()
	got := []int{}
	for k := range p.Nodes {
		got = append(got, impl.DeepOf(p, k))
	}
	if !slices.Equal(got, want) {
		t.Errorf("DeepOf %+v: %v, want %v", p.Nodes, got, want)
	}
}

func TestDeepOfChains(t *testing.T) {
	hasDeep(t, chain(1), 1)
	hasDeep(t, chain(10), 1, 2, 3, 4, 5, 6, 7, 8, 9, 10)
	hasDeep(t, chain(11), 1, 2, 3, 4, 5, 6, 7, 8, 9, 10, 0)
	hasDeep(t, chain(13), 1, 2, 3, 4, 5, 6, 7, 8, 9, 10, 0, 0, 0)
}

func withKids(lists ...[]int) impl.Program {
	p := impl.Program{}
	for _, kids := range lists {
		p.Nodes = append(p.Nodes, impl.Node{Kind: impl.NdBlock, Kids: kids})
	}
	return p
}

func TestDeepOfTheDeepestKid(t *testing.T) {
	hasDeep(t, withKids(nil, []int{0}, []int{1}, nil, []int{2, 3}), 1, 2, 3, 1, 4)
	hasDeep(t, withKids(nil, []int{0}, []int{1}, nil, []int{3, 2}), 1, 2, 3, 1, 4)
	hasDeep(t, withKids(nil, nil, nil, []int{0, 1, 2}, []int{0, 3, 1}), 1, 1, 1, 2, 3)
	hasDeep(t, withKids(nil, []int{0, 0}, []int{1, 1, 0}), 1, 2, 3)
}

// Of a kid that is no node ahead, nothing deep can be told.
func TestDeepOfKidsThatAreNotAhead(t *testing.T) {
	for _, wrong := range []int{math.MinInt, -1, 2, 3, 4, 5, math.MaxInt} {
		hasDeep(t, withKids(nil, []int{0}, []int{1, wrong}, nil), 1, 2, 0, 0)
		hasDeep(t, withKids(nil, []int{0}, []int{wrong, 0}, []int{1}), 1, 2, 0, 0)
	}
	hasDeep(t, withKids([]int{0}), 0)
	hasDeep(t, withKids([]int{1}, nil), 0, 0)
}

func TestDeepOfBehindANodeWithoutOne(t *testing.T) {
	p := chain(11)
	p.Nodes = append(p.Nodes, impl.Node{Kind: impl.NdNum}, impl.Node{Kind: impl.NdNot, Kids: []int{0}}, impl.Node{Kind: impl.NdNot, Kids: []int{11}})
	hasDeep(t, p, 1, 2, 3, 4, 5, 6, 7, 8, 9, 10, 0, 0, 0, 0)
	hasDeep(t, withKids(nil, []int{-1}, nil, []int{0}), 1, 0, 0, 0)
}

func TestDeepOfAsksForKidsAlone(t *testing.T) {
	p := impl.Program{Nodes: []impl.Node{{}, {Kind: -7, Num: -1, Name: "A", Kids: []int{0}}, {Kind: impl.NdNum, Kids: []int{1, 0, 1}}, {Kind: impl.NdCalc}}}
	hasDeep(t, p, 1, 2, 3, 1)
}

func TestDeepOfManyNodes(t *testing.T) {
	lists := make([][]int, 5000)
	for k := 1; k < len(lists); k++ {
		lists[k] = []int{(k - 1) / 2}
	}
	if got := impl.DeepOf(withKids(lists[:1023]...), 1022); got != 10 {
		t.Errorf("the last of 1023 is %d deep, want 10", got)
	}
	if got := impl.DeepOf(withKids(lists...), 4999); got != 0 {
		t.Errorf("the last of 5000 is %d deep, want 0", got)
	}
}

// smallest is the smallest program that is right.
func smallest() impl.Program {
	return impl.Program{
		Nodes:     []impl.Node{{Kind: impl.NdSkip}, {Kind: impl.NdBlock, Kids: []int{0}}},
		Processes: []impl.Process{{Name: "a", Body: 1}},
	}
}

// grower puts nodes behind those of a program, and tells their places.
type grower struct{ p impl.Program }

func (g *grower) add(node impl.Node) int {
	g.p.Nodes = append(g.p.Nodes, node)
	return len(g.p.Nodes) - 1
}

// value is a value of this many nodes, one on the other.
func (g *grower) value(size int) int {
	k := g.add(plainNode(impl.NdNum))
	for range size - 1 {
		k = g.add(plainNode(impl.NdNot, k))
	}
	return k
}

// statement is a statement of this many nodes.
func (g *grower) statement(size int) int {
	if size == 1 {
		return g.add(plainNode(impl.NdSkip))
	}
	return g.add(plainNode(impl.NdPrint, g.value(size-1)))
}

// block is a block of this many nodes, 2 to 109.
func (g *grower) block(size int) int {
	statements := min(size-1, 12)
	kids := []int{}
	for i := range statements {
		share := (size - 1) / statements
		if i < (size-1)%statements {
			share++
		}
		kids = append(kids, g.statement(share))
	}
	return g.add(plainNode(impl.NdBlock, kids...))
}

// ofNodes is a program that is right, but for having this many nodes, which are 8 or more.
func ofNodes(count int) impl.Program {
	g := grower{}
	for i := range 4 {
		body := g.block((count + i) / 4)
		g.p.Processes = append(g.p.Processes, impl.Process{Name: "abcd"[i : i+1], Body: body})
	}
	return g.p
}

// everyNode is a block with a statement of each kind, and values of each.
func (g *grower) everyNode() int {
	v := g.add(impl.Node{Kind: impl.NdVar, Name: "x"})
	set := g.add(impl.Node{Kind: impl.NdSet, Name: "x", Kids: []int{g.add(impl.Node{Kind: impl.NdCalc, Num: impl.OpOr, Kids: []int{v, g.value(1)}})}})
	choice := g.add(plainNode(impl.NdIf, g.value(2), g.block(2), g.block(3)))
	half := g.add(plainNode(impl.NdIf, g.value(1), g.block(2)))
	loop := g.add(plainNode(impl.NdWhile, g.add(plainNode(impl.NdNeg, g.value(1))), g.block(3)))
	call := g.add(impl.Node{Kind: impl.NdCall, Name: "m", More: "e", To: "x", Kids: []int{g.value(1)}})
	away := g.add(impl.Node{Kind: impl.NdCall, Name: "m", More: "e", Kids: []int{g.value(1)}})
	list := []int{set, choice, half, loop, call, away, g.statement(2)}
	for _, kind := range []int{impl.NdRead, impl.NdDelay, impl.NdCont, impl.NdSkip} {
		list = append(list, g.add(plainNode(kind)))
	}
	return g.add(plainNode(impl.NdBlock, list...))
}

// largest is a program with every list as long as may be, and a node of each kind.
func largest() impl.Program {
	g := grower{}
	for i := range 3 {
		m := impl.Monitor{Name: "mno"[i : i+1], Vars: []string{"u", "v", "w"}, Queues: []string{"p", "q"}}
		for j := range 3 {
			m.Entries = append(m.Entries, impl.Entry{Name: "efg"[j : j+1], Param: "x", Body: g.block(2 + i + j)})
		}
		g.p.Monitors = append(g.p.Monitors, m)
	}
	for i := range 3 {
		g.p.Processes = append(g.p.Processes, impl.Process{Name: "abc"[i : i+1], Uses: []string{"m", "n", "o"}, Vars: []string{"x", "y", "z"}, Body: g.block(20)})
	}
	g.p.Processes = append(g.p.Processes, impl.Process{Name: "d", Uses: []string{"m", "n", "o"}, Vars: []string{"x", "y", "z"}, Body: g.everyNode()})
	return g.p
}

// copied is the same program in memory of its own.
func copied(p impl.Program) impl.Program {
	c := impl.Program{Nodes: slices.Clone(p.Nodes), Monitors: slices.Clone(p.Monitors), Processes: slices.Clone(p.Processes)}
	for k := range c.Nodes {
		c.Nodes[k].Kids = slices.Clone(c.Nodes[k].Kids)
	}
	for i := range c.Monitors {
		m := &c.Monitors[i]
		m.Vars, m.Queues, m.Entries = slices.Clone(m.Vars), slices.Clone(m.Queues), slices.Clone(m.Entries)
	}
	for i := range c.Processes {
		process := &c.Processes[i]
		process.Uses, process.Vars = slices.Clone(process.Uses), slices.Clone(process.Vars)
	}
	return c
}

// programIs asks whether a program is right.
func programIs(t *testing.T, what string, p impl.Program, want bool) {
	t.Helper()
	if got := impl.ProgramOk(p); got != want {
		t.Errorf("ProgramOk with %s = %v, want %v", what, got, want)
	}
}

// changed asks whether the largest program is right, once it is changed.
func changed(t *testing.T, what string, want bool, change func(p *impl.Program)) {
	t.Helper()
	p := largest()
	change(&p)
	programIs(t, what, p, want)
}

func TestRightPrograms(t *testing.T) {
	programIs(t, "a skip alone", smallest(), true)
	programIs(t, "every list as long as may be", largest(), true)
	programIs(t, "nothing", impl.Program{}, false)
	p := smallest()
	g := grower{p}
	g.p.Monitors = []impl.Monitor{{Name: "m", Entries: []impl.Entry{{Name: "e", Param: "x", Body: g.block(2)}}}}
	programIs(t, "a small monitor", g.p, true)
}

func TestRightProgramsWithNamesTwice(t *testing.T) {
	changed(t, "one name for everything", true, func(p *impl.Program) {
		for _, name := range namesOf(p) {
			*name = "same"
		}
	})
}

func TestNumberOfNodes(t *testing.T) {
	for count := 8; count <= impl.MaxNodes+20; count++ {
		p := ofNodes(count)
		if len(p.Nodes) != count {
			t.Fatalf("%d nodes, want %d", len(p.Nodes), count)
		}
		programIs(t, impl.Decimal(count)+" nodes", p, count <= 160)
	}
}

// deepProgram is a program that is so deep.
func deepProgram(deep int) impl.Program {
	g := grower{}
	statement := g.statement(deep - 1)
	g.p.Processes = []impl.Process{{Name: "a", Body: g.add(plainNode(impl.NdBlock, statement))}}
	return g.p
}

// deepBlocks is a program of blocks within blocks, and so deep: each while on the way takes two.
func deepBlocks(whiles int) impl.Program {
	g := grower{}
	block := g.block(2)
	for range whiles {
		block = g.add(plainNode(impl.NdBlock, g.add(plainNode(impl.NdWhile, g.value(1), block))))
	}
	g.p.Processes = []impl.Process{{Name: "a", Body: block}}
	return g.p
}

func TestHowDeepAProgramIs(t *testing.T) {
	for deep := 2; deep < 14; deep++ {
		programIs(t, "so deep a tree: "+impl.Decimal(deep), deepProgram(deep), deep <= 10)
	}
	for whiles := range 7 {
		programIs(t, "so many whiles: "+impl.Decimal(whiles), deepBlocks(whiles), whiles <= 4)
	}
}

func TestADeepTreeAheadOfOthers(t *testing.T) {
	g := grower{deepProgram(11)}
	g.p.Processes = append(g.p.Processes, impl.Process{Name: "b", Body: g.block(4)})
	programIs(t, "a deep tree ahead", g.p, false)
}

func TestNumberOfMonitors(t *testing.T) {
	for count := range 6 {
		g := grower{smallest()}
		for i := range count {
			m := impl.Monitor{Name: "mnopqr"[i : i+1], Entries: []impl.Entry{{Name: "e", Param: "x", Body: g.block(2)}}}
			g.p.Monitors = append(g.p.Monitors, m)
		}
		programIs(t, impl.Decimal(count)+" monitors", g.p, count <= 3)
	}
}

func TestNumberOfProcesses(t *testing.T) {
	for count := range 7 {
		g := grower{}
		for i := range count {
			g.p.Processes = append(g.p.Processes, impl.Process{Name: "abcdefg"[i : i+1], Body: g.block(3)})
		}
		programIs(t, impl.Decimal(count)+" processes", g.p, 1 <= count && count <= 4)
	}
	g := grower{}
	g.p.Monitors = []impl.Monitor{{Name: "m", Entries: []impl.Entry{{Name: "e", Param: "x", Body: g.block(2)}}}}
	programIs(t, "a monitor without a process", g.p, false)
}

func TestNumberOfEntries(t *testing.T) {
	for at := range 3 {
		for count := range 6 {
			g := grower{smallest()}
			for i := range 3 {
				g.p.Monitors = append(g.p.Monitors, impl.Monitor{Name: "m"})
				entries := 1
				if i == at {
					entries = count
				}
				for range entries {
					g.p.Monitors[i].Entries = append(g.p.Monitors[i].Entries, impl.Entry{Name: "e", Param: "x", Body: g.block(2)})
				}
			}
			programIs(t, impl.Decimal(count)+" entries", g.p, 1 <= count && count <= 3)
		}
	}
}

// names are so many right names.
func names(count int) []string {
	list := []string{}
	for i := range count {
		list = append(list, strings.Repeat("n", i%8+1))
	}
	return list
}

func TestNumberOfNames(t *testing.T) {
	for i := range 3 {
		for count := range 7 {
			n := impl.Decimal(count)
			changed(t, n+" vars of a monitor", count <= 3, func(p *impl.Program) { p.Monitors[i].Vars = names(count) })
			changed(t, n+" queues", count <= 2, func(p *impl.Program) { p.Monitors[i].Queues = names(count) })
			changed(t, n+" uses", count <= 3, func(p *impl.Program) { p.Processes[i+1].Uses = names(count) })
			changed(t, n+" vars of a process", count <= 3, func(p *impl.Program) { p.Processes[i+1].Vars = names(count) })
		}
	}
}

// namesOf are where names stand in a program, those of its nodes too.
func namesOf(p *impl.Program) []*string {
	all := []*string{}
	each := func(list []string) {
		for i := range list {
			all = append(all, &list[i])
		}
	}
	for i := range p.Monitors {
		m := &p.Monitors[i]
		all = append(all, &m.Name)
		each(m.Vars)
		each(m.Queues)
		for j := range m.Entries {
			all = append(all, &m.Entries[j].Name, &m.Entries[j].Param)
		}
	}
	for i := range p.Processes {
		process := &p.Processes[i]
		all = append(all, &process.Name)
		each(process.Uses)
		each(process.Vars)
	}
	for k := range p.Nodes {
		for _, name := range []*string{&p.Nodes[k].Name, &p.Nodes[k].More, &p.Nodes[k].To} {
			if *name != "" {
				all = append(all, name)
			}
		}
	}
	return all
}

func TestWrongNamesInPrograms(t *testing.T) {
	p := largest()
	for _, name := range namesOf(&p) {
		was := *name
		for _, wrong := range notNames {
			*name = wrong
			programIs(t, "the name "+wrong, p, false)
		}
		*name = "abcdefgh"
		programIs(t, "a name of eight letters", p, true)
		*name = was
	}
	programIs(t, "its names again", p, true)
}

func TestEmptyNamesInPrograms(t *testing.T) {
	p := largest()
	for _, name := range namesOf(&p) {
		was, isTo := *name, false
		for k := range p.Nodes {
			isTo = isTo || name == &p.Nodes[k].To
		}
		*name = ""
		programIs(t, "an empty name for "+was, p, isTo)
		*name = was
	}
}

// bodiesOf are where bodies stand in a program.
func bodiesOf(p *impl.Program) []*int {
	all := []*int{}
	for i := range p.Monitors {
		for j := range p.Monitors[i].Entries {
			all = append(all, &p.Monitors[i].Entries[j].Body)
		}
	}
	for i := range p.Processes {
		all = append(all, &p.Processes[i].Body)
	}
	return all
}

func TestBodiesElsewhere(t *testing.T) {
	p := largest()
	for _, body := range bodiesOf(&p) {
		was := *body
		for k := -3; k < len(p.Nodes)+3; k++ {
			*body = k
			programIs(t, "a body at "+impl.Decimal(max(k, 0)), p, k == was)
		}
		for _, k := range []int{math.MinInt, math.MaxInt} {
			*body = k
			programIs(t, "a body far away", p, false)
		}
		*body = was
	}
}

func TestBodiesInAnotherOrder(t *testing.T) {
	p := largest()
	bodies := bodiesOf(&p)
	for i := range bodies {
		for j := range i {
			*bodies[i], *bodies[j] = *bodies[j], *bodies[i]
			programIs(t, "bodies in another order", p, true)
		}
	}
}

func TestBodiesThatAreNoBlocks(t *testing.T) {
	for _, k := range nodeKinds {
		g := grower{}
		kids := []int{}
		for _, sort := range someKids(k.kind) {
			kids = append(kids, map[rune]func() int{'v': func() int { return g.value(1) }, 's': func() int { return g.statement(1) }, 'b': func() int { return g.block(2) }}[sort]())
		}
		g.p.Processes = []impl.Process{{Name: "a", Body: g.add(plainNode(k.kind, kids...))}}
		if !impl.NodeOk(g.p, g.p.Processes[0].Body) {
			t.Errorf("a node of kind %d is not right", k.kind)
		}
		programIs(t, "a body of kind "+impl.Decimal(k.kind), g.p, k.as == 'b')
	}
}

func TestNodesThatNobodyHas(t *testing.T) {
	for _, add := range []func(g *grower){
		func(g *grower) { g.value(1) },
		func(g *grower) { g.value(3) },
		func(g *grower) { g.statement(1) },
		func(g *grower) { g.statement(2) },
		func(g *grower) { g.block(2) },
		func(g *grower) { g.everyNode() },
	} {
		behind := grower{smallest()}
		add(&behind)
		programIs(t, "nodes behind, that nobody has", behind.p, false)
		ahead := grower{}
		add(&ahead)
		ahead.p.Processes = []impl.Process{{Name: "a", Body: ahead.block(2)}}
		programIs(t, "nodes ahead, that nobody has", ahead.p, false)
	}
}

func TestNodesThatTwoHave(t *testing.T) {
	g := grower{}
	v := g.value(1)
	first, second := g.add(plainNode(impl.NdPrint, v)), g.add(plainNode(impl.NdPrint, v))
	g.p.Processes = []impl.Process{{Name: "a", Body: g.add(plainNode(impl.NdBlock, first, second))}}
	programIs(t, "a value that two print", g.p, false)

	g = grower{}
	s := g.statement(1)
	g.p.Processes = []impl.Process{{Name: "a", Body: g.add(plainNode(impl.NdBlock, s))}, {Name: "b", Body: g.add(plainNode(impl.NdBlock, s))}}
	programIs(t, "a statement in two blocks", g.p, false)

	p := smallest()
	p.Processes = append(p.Processes, impl.Process{Name: "b", Body: 1})
	programIs(t, "a body of two processes", p, false)

	p = smallest()
	p.Monitors = []impl.Monitor{{Name: "m", Entries: []impl.Entry{{Name: "e", Param: "x", Body: 1}}}}
	programIs(t, "a body of an entry and a process", p, false)
}

func TestABodyThatIsAKidToo(t *testing.T) {
	p := deepBlocks(1)
	inner := p.Nodes[len(p.Nodes)-2].Kids[1]
	p.Processes = append(p.Processes, impl.Process{Name: "b", Body: inner})
	programIs(t, "a body within a body", p, false)
	p.Processes = p.Processes[1:]
	programIs(t, "a body within what nobody has", p, false)
}

// A kid that is put elsewhere is one that nobody has where it was.
func TestEveryKidElsewhere(t *testing.T) {
	p := largest()
	for at := range p.Nodes {
		kids := p.Nodes[at].Kids
		for i, was := range kids {
			for k := -1; k <= len(p.Nodes); k++ {
				kids[i] = k
				if impl.ProgramOk(p) != (k == was) {
					t.Errorf("with kid %d of node %d at %d instead of %d: %v", i, at, k, was, k != was)
				}
			}
			kids[i] = was
		}
	}
}

func TestEveryNodeWithAKidMoreOrLess(t *testing.T) {
	p := largest()
	for at := range p.Nodes {
		kids := p.Nodes[at].Kids
		for k := range at + 1 {
			p.Nodes[at].Kids = append(slices.Clone(kids), k)
			programIs(t, "a kid more", p, false)
		}
		if len(kids) > 0 {
			p.Nodes[at].Kids = slices.Clone(kids[1:])
			programIs(t, "its first kid less", p, false)
			p.Nodes[at].Kids = slices.Clone(kids[:len(kids)-1])
			programIs(t, "its last kid less", p, false)
		}
		p.Nodes[at].Kids = kids
	}
}

func TestEveryNodeOfAnotherKind(t *testing.T) {
	p := largest()
	for at := range p.Nodes {
		was := p.Nodes[at].Kind
		for _, kind := range notKinds {
			p.Nodes[at].Kind = kind
			programIs(t, "a node of no kind", p, false)
		}
		p.Nodes[at].Kind = was
		p.Nodes[at].Num += impl.MaxVal + 1
		programIs(t, "a node with a great number", p, false)
		p.Nodes[at].Num -= impl.MaxVal + 1
	}
}

func TestEveryNodeLess(t *testing.T) {
	p := largest()
	for size := range p.Nodes {
		programIs(t, "nodes cut off", impl.Program{Nodes: p.Nodes[:size], Monitors: p.Monitors, Processes: p.Processes}, false)
	}
}

// visits counts how often each node is met on the ways down from the bodies.
func visits(p impl.Program) []int {
	counts := make([]int, len(p.Nodes))
	var walk func(k int)
	walk = func(k int) {
		counts[k]++
		for _, kid := range p.Nodes[k].Kids {
			walk(kid)
		}
	}
	for _, body := range bodiesOf(&p) {
		walk(*body)
	}
	return counts
}

func TestARightTreeHasEachNodeOnce(t *testing.T) {
	for _, p := range []impl.Program{smallest(), largest(), ofNodes(8), ofNodes(160), deepProgram(10), deepBlocks(4)} {
		programIs(t, "each node once", p, true)
		for k, count := range visits(p) {
			if count != 1 {
				t.Errorf("node %d is met %d times, want once", k, count)
			}
		}
	}
}

func TestTreesAreLeftAsTheyWere(t *testing.T) {
	for _, p := range []impl.Program{smallest(), largest(), chain(12), ofNodes(161), withKids([]int{-1}, nil, []int{5, 5})} {
		for k := range p.Nodes {
			room := append(slices.Clone(p.Nodes[k].Kids), 77, 78)
			p.Nodes[k].Kids = room[:len(room)-2]
		}
		was := copied(p)
		impl.ProgramOk(p)
		for k := range p.Nodes {
			impl.NodeOk(p, k)
			impl.DeepOf(p, k)
		}
		for _, node := range p.Nodes {
			behind := node.Kids[:len(node.Kids)+2][len(node.Kids):]
			if !slices.Equal(behind, []int{77, 78}) {
				t.Errorf("behind the kids stand %v", behind)
			}
		}
		if !slices.EqualFunc(p.Nodes, was.Nodes, sameNode) || !reflect.DeepEqual(p.Monitors, was.Monitors) || !reflect.DeepEqual(p.Processes, was.Processes) {
			t.Errorf("a program was changed: %+v", p)
		}
	}
}

func sameNode(a, b impl.Node) bool {
	kids := slices.Equal(a.Kids, b.Kids)
	a.Kids, b.Kids = nil, nil
	return kids && reflect.DeepEqual(a, b)
}
