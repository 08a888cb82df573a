package tests

import (
	"math"
	"slices"
	"strings"
	"testing"

	"loop.example/g00290/impl"
)

// halls is a program with all names right: two monitors, two processes, and all lists with something in them. In it, ENTRY stands for statements in the entry e of m, and PROCESS for some in the process a.
const halls = "monitor m ; var u , v ; queue q , r ; entry e ( x ) begin ENTRY end ; entry f ( y ) begin v := y end ; end ; " +
	"monitor n ; var w ; queue s ; entry g ( z ) begin delay s end ; end ; " +
	"process a uses m ; var c , d ; begin PROCESS end ; process b uses n , m ; var k ; begin call n . g ( k ) end ; ."

// inEntry is the text with these statements in an entry.
func inEntry(statements string) string {
	return strings.NewReplacer("ENTRY", statements, "PROCESS", "skip").Replace(halls)
}

// inProcess is the text with these statements in a process.
func inProcess(statements string) string {
	return strings.NewReplacer("ENTRY", "skip", "PROCESS", statements).Replace(halls)
}

// readFrom is the program of a text, which is right.
func readFrom(t *testing.T, text string) impl.Program {
	t.Helper()
	p, fault := impl.ReadProgram(text)
	if fault != 0 {
		t.Fatalf("ReadProgram(%q): %d", text, fault)
	}
	return p
}

// scopeIs asks for the code of a program.
func scopeIs(t *testing.T, what string, p impl.Program, want int) {
	t.Helper()
	if got := impl.ScopeOf(p); got != want {
		t.Errorf("ScopeOf %s = %d, want %d", what, got, want)
	}
}

// textScopeIs asks for the code of a text's program.
func textScopeIs(t *testing.T, text string, want int) {
	t.Helper()
	scopeIs(t, text, readFrom(t, text), want)
}

func TestScopeConstants(t *testing.T) {
	got := []int{impl.ScNames, impl.ScVar, impl.ScQueue, impl.ScCall, impl.ScPlace}
	if want := []int{1, 2, 3, 4, 5}; !slices.Equal(got, want) {
		t.Errorf("constants are %v, want %v", got, want)
	}
}

func unlike(t *testing.T, want bool, list ...string) {
	t.Helper()
	was := slices.Clone(list)
	if got := impl.Unlike(list); got != want {
		t.Errorf("Unlike(%.300q) = %v, want %v", list, got, want)
	}
	if !slices.Equal(list, was) {
		t.Errorf("Unlike made %.300q of %.300q", list, was)
	}
}

func TestListsThatAreUnlike(t *testing.T) {
	unlike(t, true)
	unlike(t, true, []string{}...)
	unlike(t, true, "a")
	unlike(t, true, "")
	unlike(t, true, "a", "b")
	unlike(t, true, "a", "b", "c", "d", "e")
	unlike(t, true, "a", "aa", "aaa", "")
	unlike(t, true, "ab", "ba", "a", "b")
	unlike(t, true, "resul", "results", "Result", "RESULT", "esult", " result", "result ", "result\x00")
	unlike(t, true, "monitor", "A", "a1", "\xff", "\x00", "\x00\x00", "ä")
}

func TestListsOfNamesThatAreNotUnlike(t *testing.T) {
	unlike(t, false, "a", "a")
	unlike(t, false, "", "")
	unlike(t, false, "\xff", "\xff")
	unlike(t, false, "a", "a", "a")
	unlike(t, false, "result")
	unlike(t, false, "result", "result")
	for size := 1; size < 6; size++ {
		plain := strings.Split("a b c d e f", " ")[:size]
		for i := range plain {
			list := slices.Clone(plain)
			list[i] = "result"
			unlike(t, false, list...)
			for j := range i {
				list[i] = plain[j]
				unlike(t, false, list...)
			}
		}
	}
}

func TestUnlikeOfLongLists(t *testing.T) {
	list := []string{}
	for i := range 100000 {
		list = append(list, impl.Decimal(i))
	}
	unlike(t, true, list...)
	list[99999] = "0"
	unlike(t, false, list...)
	list[99999] = "result"
	unlike(t, false, list...)
}

func monitorAt(t *testing.T, p impl.Program, name string, want int) {
	t.Helper()
	if got := impl.MonitorAt(p, name); got != want {
		t.Errorf("MonitorAt(%+v, %q) = %d, want %d", p.Monitors, name, got, want)
	}
}

func TestMonitorsByName(t *testing.T) {
	p := readFrom(t, inEntry("skip"))
	monitorAt(t, p, "m", 0)
	monitorAt(t, p, "n", 1)
	for _, name := range []string{"", "a", "b", "e", "g", "u", "q", "x", "M", "mm", "m ", " m", "mn", "result", "monitor", "\x00", "o"} {
		monitorAt(t, p, name, -1)
	}
	monitorAt(t, smallest(), "a", -1)
	monitorAt(t, impl.Program{}, "", -1)
	monitorAt(t, impl.Program{}, "m", -1)
}

// The lists are as long as they are: a program needn't be right.
func TestTheFirstMonitorOfAName(t *testing.T) {
	p := impl.Program{Monitors: []impl.Monitor{{Name: "o"}, {Name: "m"}, {Name: ""}, {Name: "m"}, {Name: "o"}, {Name: "result"}, {Name: "\xff?"}, {}}}
	for name, want := range map[string]int{"o": 0, "m": 1, "": 2, "result": 5, "\xff?": 6, "\xff": -1, "n": -1} {
		monitorAt(t, p, name, want)
	}
}

func entryAt(t *testing.T, p impl.Program, m int, name string, want int) {
	t.Helper()
	if got := impl.EntryAt(p, m, name); got != want {
		t.Errorf("EntryAt(%+v, %d, %q) = %d, want %d", p.Monitors, m, name, got, want)
	}
}

func TestEntriesByName(t *testing.T) {
	p := readFrom(t, inEntry("skip"))
	entryAt(t, p, 0, "e", 0)
	entryAt(t, p, 0, "f", 1)
	entryAt(t, p, 1, "g", 0)
	for m, names := range [][]string{{"g", "x", "y"}, {"e", "f", "z"}} {
		for _, name := range append(names, "", "m", "n", "a", "u", "q", "ee", "E", "e ", "result", "entry", "\x00") {
			entryAt(t, p, m, name, -1)
		}
	}
}

func TestEntriesOfMonitorsThatAreNone(t *testing.T) {
	p := readFrom(t, inEntry("skip"))
	for _, m := range []int{math.MinInt, -2, -1, 2, 3, math.MaxInt} {
		for _, name := range []string{"e", "f", "g", ""} {
			entryAt(t, p, m, name, -1)
		}
	}
	for m := -1; m < 2; m++ {
		entryAt(t, smallest(), m, "e", -1)
		entryAt(t, impl.Program{}, m, "", -1)
	}
}

func TestTheFirstEntryOfAName(t *testing.T) {
	p := impl.Program{Monitors: []impl.Monitor{
		{Name: "m", Entries: []impl.Entry{{Name: "f"}, {Name: "e"}, {Name: "e"}, {Name: "f"}, {Name: ""}, {}, {Name: "h", Body: -1}}},
		{Name: "m"},
		{Name: "m", Entries: []impl.Entry{{Name: "e"}, {Name: "f"}}},
	}}
	for name, want := range map[string][]int{"f": {0, -1, 1}, "e": {1, -1, 0}, "": {4, -1, -1}, "h": {6, -1, -1}, "g": {-1, -1, -1}} {
		for m := range want {
			entryAt(t, p, m, name, want[m])
		}
	}
}

func nodesUnder(t *testing.T, p impl.Program, k int, want ...int) {
	t.Helper()
	if got := impl.NodesUnder(p, k); !slices.Equal(got, want) {
		t.Errorf("NodesUnder(%+v, %d) = %v, want %v", p.Nodes, k, got, want)
	}
}

func TestNodesUnderSomeNodes(t *testing.T) {
	p := readFrom(t, "process a ; var v ; begin v := 1 + 2 ; if v then begin print - v end else begin skip end ; print 3 end ; process b ; begin print 4 end ; .")
	for k, want := range [][]int{
		{0}, {1}, {0, 1, 2}, {0, 1, 2, 3},
		{4}, {5}, {5, 6}, {5, 6, 7}, {5, 6, 7, 8}, {9}, {9, 10}, {4, 5, 6, 7, 8, 9, 10, 11},
		{12}, {12, 13}, {0, 1, 2, 3, 4, 5, 6, 7, 8, 9, 10, 11, 12, 13, 14},
		{15}, {15, 16}, {15, 16, 17},
	} {
		nodesUnder(t, p, k, want...)
	}
}

func TestNodesUnderInAnyOrder(t *testing.T) {
	p := withKids(nil, nil, nil, []int{2, 0}, []int{1}, []int{4}, []int{5, 3}, []int{3, 5, 1, 3})
	nodesUnder(t, p, 3, 0, 2, 3)
	nodesUnder(t, p, 4, 1, 4)
	nodesUnder(t, p, 5, 1, 4, 5)
	nodesUnder(t, p, 6, 0, 1, 2, 3, 4, 5, 6)
	nodesUnder(t, p, 7, 0, 1, 2, 3, 4, 5, 7)
}

// A node that is the kid of two, or of one over and over, is there once.
func TestNodesUnderThatAreKidsOfTwo(t *testing.T) {
	p := withKids(nil, []int{0, 0}, []int{0, 1, 0}, []int{1, 2}, []int{3, 3, 2, 1, 0})
	for k := range p.Nodes {
		nodesUnder(t, p, k, []int{0, 1, 2, 3, 4}[:k+1]...)
	}
	lists := [][]int{nil}
	for range 9 {
		last := len(lists) - 1
		lists = append(lists, slices.Repeat([]int{last}, 20000))
	}
	nodesUnder(t, withKids(lists...), 9, 0, 1, 2, 3, 4, 5, 6, 7, 8, 9)
}

func TestNodesUnderThatAreNotRight(t *testing.T) {
	p := impl.Program{Nodes: []impl.Node{{}, {Kind: -7, Num: -1, Name: "A", Kids: []int{0}}, {Kind: impl.NdNum, Kids: []int{1}}, {Kind: impl.NdCalc}}}
	nodesUnder(t, p, 0, 0)
	nodesUnder(t, p, 1, 0, 1)
	nodesUnder(t, p, 2, 0, 1, 2)
	nodesUnder(t, p, 3, 3)
}

func TestNothingIsUnderNoNode(t *testing.T) {
	for _, p := range []impl.Program{{}, smallest(), readFrom(t, inEntry("skip"))} {
		size := len(p.Nodes)
		for _, k := range []int{math.MinInt, -size, -2, -1, size, size + 1, math.MaxInt} {
			nodesUnder(t, p, k)
		}
	}
}

func TestNodesUnderDeepOnes(t *testing.T) {
	p := chain(13)
	for k := range 10 {
		nodesUnder(t, p, k, []int{0, 1, 2, 3, 4, 5, 6, 7, 8, 9}[:k+1]...)
	}
	for k := 10; k < 13; k++ {
		nodesUnder(t, p, k)
	}
	p.Nodes = append(p.Nodes, impl.Node{Kind: impl.NdNum}, impl.Node{Kind: impl.NdNot, Kids: []int{0}})
	nodesUnder(t, p, 13)
	nodesUnder(t, p, 14)
}

func TestNodesUnderKidsThatAreNotAhead(t *testing.T) {
	for _, wrong := range []int{math.MinInt, -1, 2, 3, 4, 5, math.MaxInt} {
		for _, kids := range [][]int{{wrong}, {1, wrong}, {wrong, 1}} {
			p := withKids(nil, []int{0}, kids, nil, []int{1})
			nodesUnder(t, p, 0, 0)
			nodesUnder(t, p, 1, 0, 1)
			nodesUnder(t, p, 2)
			nodesUnder(t, p, 3)
			nodesUnder(t, p, 4)
		}
	}
	for _, round := range []impl.Program{withKids([]int{0}), withKids([]int{1}, []int{0}), withKids([]int{2}, []int{0}, []int{1})} {
		for k := range round.Nodes {
			nodesUnder(t, round, k)
		}
	}
}

func TestEachNodeIsUnderOneBody(t *testing.T) {
	for _, p := range []impl.Program{smallest(), largest(), ofNodes(160), deepBlocks(4), readFrom(t, everyKind)} {
		all := []int{}
		for _, body := range bodiesOf(&p) {
			under := impl.NodesUnder(p, *body)
			if !slices.IsSorted(under) || under[len(under)-1] != *body {
				t.Errorf("under the body %d stand %v", *body, under)
			}
			all = append(all, under...)
		}
		slices.Sort(all)
		for k, at := range all {
			if k != at {
				t.Fatalf("under all bodies stand %v", all)
			}
		}
		if len(all) != len(p.Nodes) {
			t.Errorf("%d of %d nodes stand under bodies", len(all), len(p.Nodes))
		}
	}
}

func TestNodesUnderMany(t *testing.T) {
	lists := [][]int{}
	want := []int{}
	for k := range 50000 {
		lists = append(lists, nil)
		if k%3 == 1 {
			want = append(want, k)
		}
	}
	kids := slices.Clone(want)
	slices.Reverse(kids)
	p := withKids(append(lists, kids)...)
	if got := impl.NodesUnder(p, 50000); !slices.Equal(got, append(want, 50000)) {
		t.Errorf("%d nodes, want %d", len(got), len(want)+1)
	}
}

func TestNodesUnderAreNewMemory(t *testing.T) {
	p := readFrom(t, everyKind)
	was := told(p)
	for k := range p.Nodes {
		first, second := impl.NodesUnder(p, k), impl.NodesUnder(p, k)
		want := slices.Clone(second)
		for i := range first[:cap(first)] {
			first[:cap(first)][i] = -9
		}
		if !slices.Equal(second, want) || !slices.Equal(impl.NodesUnder(p, k), want) || told(p) != was {
			t.Errorf("NodesUnder at %d shares its answer", k)
		}
	}
}

// rightInEntry and rightInProcess are statements whose names are right there.
var (
	rightInEntry = []string{
		"skip", "print 1", "u := 1", "v := u", "x := x", "result := x + u", "result := result", "print result", "print not - ( u < v )",
		"delay q", "continue r", "if x then begin u := 1 ; delay r end else begin v := 2 end", "while u do begin continue q end",
	}
	rightInProcess = []string{
		"skip", "print 1", "c := 1", "print c + d", "read d", "call m . e ( c )", "call m . f ( 1 ) to d", "call m . e ( c * d ) to c",
		"if c then begin read c end else begin print d end", "while d do begin call m . f ( d ) to d end",
	}
)

func TestNamesThatAreRight(t *testing.T) {
	for _, statement := range rightInEntry {
		textScopeIs(t, inEntry(statement), 0)
	}
	for _, statement := range rightInProcess {
		textScopeIs(t, inProcess(statement), 0)
	}
	textScopeIs(t, inEntry(strings.Join(rightInEntry[:12], " ; ")), 0)
	textScopeIs(t, inProcess(strings.Join(rightInProcess, " ; ")), 0)
	scopeIs(t, "the smallest", smallest(), 0)
	textScopeIs(t, everyKind, 0)
	for count := 8; count <= impl.MaxNodes; count++ {
		scopeIs(t, "so many nodes", ofNodes(count), 0)
	}
}

// Names of two kinds may be the same, where none of them could stand for the other.
func TestNamesThatMayBeTheSame(t *testing.T) {
	for _, text := range []string{
		"monitor a ; var a ; entry a ( x ) begin a := x end ; end ; process a uses a ; var a ; begin call a . a ( a ) to a end ; .",
		"monitor a ; queue a ; entry a ( x ) begin delay a ; continue a end ; end ; process a uses a ; var a ; begin read a ; call a . a ( a ) to a end ; .",
		"monitor a ; entry a ( a ) begin a := a end ; end ; process a uses a ; begin call a . a ( 1 ) end ; .",
		"monitor m ; var v ; queue q ; entry e ( x ) begin v := x ; delay q end ; end ; monitor n ; var v ; queue q ; entry e ( x ) begin v := x ; continue q end ; end ; process a uses m , n ; begin call m . e ( 1 ) ; call n . e ( 2 ) end ; .",
		"monitor m ; var v ; entry e ( x ) begin v := x end ; entry f ( x ) begin v := x end ; entry g ( x ) begin result := x end ; end ; process a uses m ; begin call m . g ( 1 ) end ; .",
		"monitor m ; var v ; entry e ( x ) begin v := x end ; end ; process a uses m ; var v ; begin call m . e ( v ) to v end ; process b uses m ; var v ; begin read v end ; .",
		"monitor m ; var v ; entry v ( x ) begin v := x end ; entry m ( a ) begin print a end ; end ; process a uses m ; var x ; begin call m . v ( x ) end ; .",
		"monitor m ; var v ; queue q ; entry e ( x ) begin delay q end ; end ; monitor n ; var q ; queue v ; entry e ( x ) begin q := 1 ; delay v end ; end ; process a ; begin skip end ; .",
		"monitor m ; entry e ( q ) begin print q end ; end ; monitor q ; queue e ; entry m ( x ) begin delay e end ; end ; process e uses q , m ; var q , m , e ; begin call m . e ( m ) to e ; call q . m ( q ) end ; .",
		"monitor m ; entry e ( x ) begin skip end ; end ; process x uses m ; var x ; begin skip end ; process e uses m ; var x ; begin skip end ; process m ; var m ; begin skip end ; .",
	} {
		textScopeIs(t, text, 0)
	}
}

// A name that is used nowhere, or isn't used, is as right as others.
func TestNamesThatAreNotNeeded(t *testing.T) {
	textScopeIs(t, "monitor m ; var u , v , w ; queue p , q ; entry e ( x ) begin skip end ; end ; process a ; begin skip end ; .", 0)
	textScopeIs(t, "monitor m ; entry e ( x ) begin skip end ; end ; process a uses m ; var u , v , w ; begin skip end ; .", 0)
	textScopeIs(t, "monitor m ; entry e ( x ) begin skip end ; end ; monitor n ; entry e ( x ) begin skip end ; end ; monitor o ; entry e ( x ) begin skip end ; end ; process a uses o , n , m ; begin skip end ; process b uses n ; begin call n . e ( 1 ) end ; .", 0)
	textScopeIs(t, "process a ; var results , resul ; begin read results ; print resul end ; .", 0)
}

// namesWithFault are programs that have ScNames alone.
var namesWithFault = []string{
	// two monitors, processes, and entries of a monitor
	"monitor m ; entry e ( x ) begin skip end ; end ; monitor m ; entry f ( x ) begin skip end ; end ; process a ; begin skip end ; .",
	"monitor m ; entry e ( x ) begin skip end ; end ; monitor n ; entry f ( x ) begin skip end ; end ; monitor m ; entry e ( x ) begin skip end ; end ; process a uses m ; begin call m . e ( 1 ) end ; .",
	"process a ; begin skip end ; process a ; begin skip end ; .",
	"process a ; begin skip end ; process b ; begin skip end ; process c ; begin skip end ; process b ; begin skip end ; .",
	"monitor m ; entry e ( x ) begin skip end ; entry e ( x ) begin skip end ; end ; process a ; begin skip end ; .",
	"monitor n ; entry e ( x ) begin skip end ; end ; monitor m ; entry f ( x ) begin skip end ; entry e ( x ) begin skip end ; entry f ( y ) begin skip end ; end ; process a uses m ; begin call m . f ( 1 ) end ; .",
	// two of a monitor's Vars, Queues and a Param
	"monitor m ; var v , v ; entry e ( x ) begin v := 1 end ; end ; process a ; begin skip end ; .",
	"monitor m ; var v , w , v ; entry e ( x ) begin skip end ; end ; process a ; begin skip end ; .",
	"monitor m ; queue q , q ; entry e ( x ) begin delay q end ; end ; process a ; begin skip end ; .",
	"monitor m ; var q ; queue q ; entry e ( x ) begin skip end ; end ; process a ; begin skip end ; .",
	"monitor m ; var u , v ; queue p , u ; entry e ( x ) begin skip end ; end ; process a ; begin skip end ; .",
	"monitor m ; var v ; entry e ( v ) begin v := 1 end ; end ; process a ; begin skip end ; .",
	"monitor m ; var u , v ; entry e ( x ) begin skip end ; entry f ( v ) begin skip end ; entry g ( x ) begin skip end ; end ; process a ; begin skip end ; .",
	"monitor m ; queue q ; entry e ( q ) begin delay q end ; end ; process a ; begin skip end ; .",
	"monitor m ; queue p , q ; entry e ( x ) begin skip end ; entry f ( y ) begin skip end ; entry g ( p ) begin skip end ; end ; process a ; begin skip end ; .",
	"monitor n ; entry e ( x ) begin skip end ; end ; monitor m ; var v ; queue v ; entry e ( x ) begin skip end ; end ; process a ; begin skip end ; .",
	// two of a process's Uses, and of its Vars
	"monitor m ; entry e ( x ) begin skip end ; end ; process a uses m , m ; begin skip end ; .",
	"monitor m ; entry e ( x ) begin skip end ; end ; monitor n ; entry e ( x ) begin skip end ; end ; process a ; begin skip end ; process b uses m , n , m ; begin skip end ; .",
	"process a ; var v , v ; begin v := 1 end ; .",
	"process a ; begin skip end ; process b ; begin skip end ; process c ; var w , v , w ; begin skip end ; .",
	// each of these is `result`
	"monitor result ; entry e ( x ) begin skip end ; end ; process a ; begin skip end ; .",
	"monitor result ; entry e ( x ) begin skip end ; end ; process a uses result ; begin call result . e ( 1 ) end ; .",
	"process result ; begin skip end ; .",
	"process a ; begin skip end ; process result ; begin skip end ; .",
	"monitor m ; entry result ( x ) begin skip end ; end ; process a uses m ; begin call m . result ( 1 ) end ; .",
	"monitor m ; entry e ( x ) begin skip end ; entry result ( x ) begin skip end ; end ; process a ; begin skip end ; .",
	"monitor m ; var result ; entry e ( x ) begin result := 1 end ; end ; process a ; begin skip end ; .",
	"monitor m ; var v , result ; entry e ( x ) begin skip end ; end ; process a ; begin skip end ; .",
	"monitor m ; queue result ; entry e ( x ) begin delay result end ; end ; process a ; begin skip end ; .",
	"monitor m ; queue q , result ; entry e ( x ) begin skip end ; end ; process a ; begin skip end ; .",
	"monitor m ; entry e ( result ) begin print result end ; end ; process a ; begin skip end ; .",
	"monitor m ; entry e ( x ) begin skip end ; entry f ( result ) begin skip end ; end ; process a ; begin skip end ; .",
	"monitor m ; entry e ( x ) begin skip end ; end ; process a uses result ; begin skip end ; .",
	"process a ; var result ; begin read result end ; .",
	"process a ; begin skip end ; process b ; var v , w , result ; begin skip end ; .",
	// a process uses what is no monitor
	"process a uses m ; begin skip end ; .",
	"process a uses a ; begin skip end ; .",
	"monitor m ; var v ; entry e ( x ) begin skip end ; end ; process a uses m , n ; begin call m . e ( 1 ) end ; .",
	"monitor m ; var v ; entry e ( x ) begin skip end ; end ; process a ; begin skip end ; process b uses e ; begin skip end ; .",
	"monitor m ; var v ; queue q ; entry e ( x ) begin skip end ; end ; process a uses m , v ; begin skip end ; .",
}

func TestNamesThatAreNot(t *testing.T) {
	for _, text := range namesWithFault {
		textScopeIs(t, text, impl.ScNames)
	}
}

// faultsInEntry and faultsInProcess are statements that have the code, and no other, there.
var (
	faultsInEntry = map[int][]string{
		impl.ScPlace: {
			"call m . e ( 1 )", "call m . f ( x ) to u", "call n . g ( 1 )", "call n . g ( 1 ) to c", "call o . o ( 1 ) to o",
			"read u", "read x", "read result", "read c", "read q", "read o",
		},
		impl.ScVar: {
			"print y", "y := 1", "print z", "print w", "w := 1", "print c", "c := 1", "print k", "print q", "r := 1", "print s",
			"print m", "print n", "print e", "f := 1", "print a", "b := 1", "print o", "o := 1", "result := o", "u := y", "print results",
		},
		impl.ScQueue: {
			"delay u", "continue u", "delay x", "continue x", "delay y", "delay result", "continue result", "delay s", "continue s", "delay w",
			"delay c", "delay m", "continue n", "delay e", "delay a", "delay o", "continue o",
		},
	}
	faultsInProcess = map[int][]string{
		impl.ScPlace: {"delay q", "continue r", "delay s", "delay c", "continue d", "delay o", "continue o", "delay result", "delay m"},
		impl.ScVar: {
			"print result", "result := 1", "read result", "call m . e ( 1 ) to result", "call m . e ( result )",
			"print k", "k := 1", "read k", "call m . e ( 1 ) to k", "print u", "u := 1", "read v", "call m . e ( 1 ) to u", "print x", "x := 1", "read y",
			"print q", "r := 1", "read q", "call m . f ( 1 ) to q", "print m", "print e", "print a", "b := 1", "read m", "call m . f ( 1 ) to m", "call m . f ( 1 ) to f",
			"print o", "o := 1", "read o", "call m . e ( 1 ) to o", "call m . e ( o )", "call m . e ( o ) to c",
			"call n . g ( 1 ) to o", "call o . e ( 1 ) to k", "call m . g ( 1 ) to u",
		},
		impl.ScCall: {
			"call n . g ( 1 )", "call n . g ( 1 ) to c", "call o . e ( 1 )", "call o . o ( 1 ) to d", "call m . g ( 1 )", "call m . o ( 1 )", "call m . o ( c ) to c",
			"call a . e ( 1 )", "call e . m ( 1 )", "call m . m ( 1 )", "call m . u ( 1 )", "call m . x ( 1 )", "call c . e ( 1 )", "call n . e ( 1 )", "call result . e ( 1 )", "call m . result ( 1 )",
		},
	}
)

// around are places in a body, none of which has a fault of its own; HERE stands for a statement.
var around = []string{
	"HERE", "skip ; HERE", "HERE ; skip", "if 1 then begin HERE end", "if 1 then begin skip end else begin HERE end", "while 0 do begin skip ; HERE end",
	"while 0 do begin if 1 then begin skip ; while 2 do begin HERE end end end",
}

func TestEachCode(t *testing.T) {
	for _, place := range around {
		for code, statements := range faultsInEntry {
			for _, statement := range statements {
				textScopeIs(t, inEntry(strings.Replace(place, "HERE", statement, 1)), code)
			}
		}
		for code, statements := range faultsInProcess {
			for _, statement := range statements {
				textScopeIs(t, inProcess(strings.Replace(place, "HERE", statement, 1)), code)
			}
		}
	}
}

func TestNamesInEachValue(t *testing.T) {
	for _, value := range []string{"@", "not @", "- @", "@ + 1", "1 * @", "( 1 < @ ) and 2", "1 or not ( 2 - @ )"} {
		for _, statement := range []string{"print @", "u := @", "if @ then begin skip end", "while @ do begin skip end"} {
			for name, want := range map[string]int{"u": 0, "x": 0, "result": 0, "y": impl.ScVar, "q": impl.ScVar, "c": impl.ScVar} {
				textScopeIs(t, inEntry(strings.Replace(statement, "@", strings.Replace(value, "@", name, 1), 1)), want)
			}
		}
		for _, statement := range []string{"print @", "c := @", "if @ then begin skip end", "while @ do begin skip end", "call m . e ( @ )", "call m . e ( @ ) to d"} {
			for name, want := range map[string]int{"c": 0, "d": 0, "result": impl.ScVar, "x": impl.ScVar, "u": impl.ScVar, "k": impl.ScVar} {
				textScopeIs(t, inProcess(strings.Replace(statement, "@", strings.Replace(value, "@", name, 1), 1)), want)
			}
		}
	}
}

// Each entry has its own Param: no other sees it, ahead or behind.
func TestTheParamOfAnotherEntry(t *testing.T) {
	for at, own := range []string{"x", "y", "z"} {
		for _, name := range []string{"x", "y", "z", "v", "result"} {
			for _, statement := range []string{"print @", "@ := 1"} {
				bodies := []string{"skip", "skip", "skip"}
				bodies[at] = strings.Replace(statement, "@", name, 1)
				want := impl.ScVar
				if name == own || name == "v" || name == "result" {
					want = 0
				}
				textScopeIs(t, "monitor m ; var v ; entry e ( x ) begin "+bodies[0]+" end ; entry f ( y ) begin "+bodies[1]+" end ; entry g ( z ) begin "+bodies[2]+" end ; end ; process a ; begin skip end ; .", want)
			}
		}
	}
	textScopeIs(t, "monitor m ; entry e ( x ) begin print x end ; entry f ( y ) begin print y end ; entry g ( x ) begin print x end ; end ; process a ; begin skip end ; .", 0)
}

// A process may call what it uses itself, whatever the others use.
func TestCallsOfWhatOthersUse(t *testing.T) {
	const text = "monitor m ; entry e ( x ) begin skip end ; end ; monitor n ; entry e ( x ) begin skip end ; end ; process a uses USESA ; begin call m . e ( 1 ) end ; process b uses USESB ; begin call n . e ( 1 ) end ; ."
	for _, uses := range []struct {
		a, b string
		want int
	}{{"m", "n", 0}, {"m , n", "m , n", 0}, {"n , m", "n", 0}, {"n", "n", impl.ScCall}, {"m", "m", impl.ScCall}, {"n", "m", impl.ScCall}} {
		textScopeIs(t, strings.NewReplacer("USESA", uses.a, "USESB", uses.b).Replace(text), uses.want)
	}
	textScopeIs(t, "monitor m ; entry e ( x ) begin skip end ; end ; process a ; begin call m . e ( 1 ) end ; .", impl.ScCall)
	textScopeIs(t, "process a ; begin call m . e ( 1 ) end ; .", impl.ScCall)
}

func TestTheFirstStatementCounts(t *testing.T) {
	for code, statements := range faultsInEntry {
		for _, others := range faultsInEntry {
			for _, other := range others {
				textScopeIs(t, inEntry(statements[0]+" ; "+other), code)
				textScopeIs(t, inEntry("if 1 then begin "+statements[0]+" end ; "+other), code)
			}
		}
	}
	for code, statements := range faultsInProcess {
		for _, others := range faultsInProcess {
			for _, other := range others {
				textScopeIs(t, inProcess(statements[0]+" ; "+other), code)
				textScopeIs(t, inProcess(statements[0]+" ; while 1 do begin "+other+" end"), code)
			}
		}
	}
}

func TestEntriesAreAheadOfProcesses(t *testing.T) {
	for code, statements := range faultsInEntry {
		for _, others := range faultsInProcess {
			text := strings.NewReplacer("ENTRY", statements[0], "PROCESS", others[0]).Replace(halls)
			textScopeIs(t, text, code)
		}
	}
}

// A node ends behind its kids, so that these are first.
func TestKidsAreAheadOfTheirNode(t *testing.T) {
	for text, want := range map[string]int{
		inEntry("call m . e ( o )"):                               impl.ScVar,
		inEntry("call o . o ( y ) to o"):                          impl.ScVar,
		inEntry("while c do begin delay u end"):                   impl.ScVar,
		inEntry("while u do begin delay u ; read o end"):          impl.ScQueue,
		inEntry("if u then begin call m . e ( 1 ) end ; print o"): impl.ScPlace,
		inProcess("call o . o ( o )"):                             impl.ScVar,
		inProcess("if c then begin delay q end ; print o"):        impl.ScPlace,
		inProcess("while o do begin delay q end"):                 impl.ScVar,
		inProcess("o := c ; delay q"):                             impl.ScVar,
		inProcess("call n . g ( 1 ) ; call m . e ( 1 ) to o"):     impl.ScCall,
	} {
		textScopeIs(t, text, want)
	}
}

// Of one node, the place is asked for first, then the var, then the call.
func TestTheOrderOfCodesOfOneNode(t *testing.T) {
	for text, want := range map[string]int{
		inEntry("read o"):                      impl.ScPlace,
		inEntry("call o . o ( 1 ) to o"):       impl.ScPlace,
		inEntry("call n . g ( 1 ) to result"):  impl.ScPlace,
		inProcess("delay o"):                   impl.ScPlace,
		inProcess("continue o"):                impl.ScPlace,
		inProcess("call o . o ( 1 ) to o"):     impl.ScVar,
		inProcess("call m . o ( 1 ) to o"):     impl.ScVar,
		inProcess("call n . g ( 1 ) to w"):     impl.ScVar,
		inProcess("call o . o ( 1 ) to c"):     impl.ScCall,
		inProcess("call o . o ( 1 )"):          impl.ScCall,
		inProcess("call m . e ( 1 ) to o"):     impl.ScVar,
		inProcess("call m . e ( 1 ) to c"):     0,
		inProcess("call m . e ( c + d ) to d"): 0,
	} {
		textScopeIs(t, text, want)
	}
}

func TestNamesAreAheadOfAll(t *testing.T) {
	for _, change := range []func(p *impl.Program){
		func(p *impl.Program) { p.Monitors[1].Name = "m" },
		func(p *impl.Program) { p.Processes[1].Name = "a" },
		func(p *impl.Program) { p.Monitors[0].Entries[1].Name = "e" },
		func(p *impl.Program) { p.Monitors[1].Queues[0] = "w" },
		func(p *impl.Program) { p.Monitors[0].Entries[1].Param = "r" },
		func(p *impl.Program) { p.Processes[0].Vars[1] = "result" },
		func(p *impl.Program) { p.Processes[1].Uses[1] = "n" },
		func(p *impl.Program) { p.Processes[1].Uses[0] = "o" },
		func(p *impl.Program) { p.Processes[1].Body-- },
		func(p *impl.Program) { p.Nodes = append(p.Nodes, impl.Node{Kind: impl.NdSkip}) },
	} {
		texts := []string{inEntry("skip")}
		for _, statements := range faultsInEntry {
			texts = append(texts, inEntry(statements[0]))
		}
		for _, statements := range faultsInProcess {
			texts = append(texts, inProcess(statements[0]))
		}
		for _, text := range texts {
			p := readFrom(t, text)
			change(&p)
			scopeIs(t, "changed: "+text, p, impl.ScNames)
		}
	}
}

// twoBodies is a program of two processes, a and b, without names of their own: of these nodes, behind which stand a block of a and one of b.
func twoBodies(nodes []impl.Node, ofA, ofB []int) impl.Program {
	size := len(nodes)
	nodes = append(slices.Clone(nodes), impl.Node{Kind: impl.NdBlock, Kids: ofA}, impl.Node{Kind: impl.NdBlock, Kids: ofB})
	return impl.Program{Nodes: nodes, Processes: []impl.Process{{Name: "a", Body: size}, {Name: "b", Body: size + 1}}}
}

// Which node is the first is told by its place, not by its statement's or its body's.
func TestTheFirstNodeIsTheOneAhead(t *testing.T) {
	delay, read := impl.Node{Kind: impl.NdDelay, Name: "q"}, impl.Node{Kind: impl.NdRead, Name: "o"}
	skip := impl.Node{Kind: impl.NdSkip}
	for _, try := range []struct {
		nodes    []impl.Node
		ofA, ofB []int
		want     int
	}{
		{[]impl.Node{delay, read, skip}, []int{0, 1}, []int{2}, impl.ScPlace},
		{[]impl.Node{delay, read, skip}, []int{1, 0}, []int{2}, impl.ScPlace},
		{[]impl.Node{read, delay, skip}, []int{1, 0}, []int{2}, impl.ScVar},
		{[]impl.Node{delay, read, skip}, []int{1, 2}, []int{0}, impl.ScPlace},
		{[]impl.Node{read, delay, skip}, []int{1, 2}, []int{0}, impl.ScVar},
		{[]impl.Node{skip, delay, read}, []int{2, 0}, []int{1}, impl.ScPlace},
		{[]impl.Node{read, skip, delay, skip}, []int{2, 1}, []int{3, 0}, impl.ScVar},
		{[]impl.Node{skip, skip, skip, skip}, []int{2, 1}, []int{3, 0}, 0},
	} {
		p := twoBodies(try.nodes, try.ofA, try.ofB)
		scopeIs(t, told(p), p, try.want)
		p.Processes[0].Body, p.Processes[1].Body = p.Processes[1].Body, p.Processes[0].Body
		scopeIs(t, told(p), p, try.want)
	}
}

// The nodes of a process may stand ahead of those of an entry.
func TestAProcessAheadOfAnEntry(t *testing.T) {
	delay, read := impl.Node{Kind: impl.NdDelay, Name: "q"}, impl.Node{Kind: impl.NdRead, Name: "o"}
	for _, try := range []struct {
		first, second      impl.Node
		inEntry, inProcess int
		want               int
		// wantDeclared is the code when q is a queue, and o is a var.
		wantDeclared int
	}{
		{read, delay, 1, 0, impl.ScVar, 0},
		{delay, read, 0, 1, impl.ScQueue, 0},
		{delay, read, 1, 0, impl.ScPlace, impl.ScPlace},
		{read, delay, 0, 1, impl.ScPlace, impl.ScPlace},
		{read, read, 1, 0, impl.ScVar, impl.ScPlace},
		{delay, delay, 0, 1, impl.ScQueue, impl.ScPlace},
	} {
		p := impl.Program{
			Nodes:     []impl.Node{try.first, try.second, {Kind: impl.NdBlock, Kids: []int{try.inProcess}}, {Kind: impl.NdBlock, Kids: []int{try.inEntry}}},
			Monitors:  []impl.Monitor{{Name: "m", Entries: []impl.Entry{{Name: "e", Param: "x", Body: 3}}}},
			Processes: []impl.Process{{Name: "a", Body: 2}},
		}
		scopeIs(t, told(p), p, try.want)
		p.Monitors[0].Queues, p.Processes[0].Vars = []string{"q"}, []string{"o"}
		scopeIs(t, told(p), p, try.wantDeclared)
	}
}

func TestScopeOfProgramsThatAreNotRight(t *testing.T) {
	scopeIs(t, "nothing", impl.Program{}, impl.ScNames)
	for _, p := range []impl.Program{
		withKids([]int{0}), withKids([]int{1}, []int{0}), chain(5), ofNodes(161), deepProgram(11), deepBlocks(5),
		{Processes: []impl.Process{{Name: "a"}}},
		{Nodes: smallest().Nodes},
		{Nodes: smallest().Nodes, Processes: []impl.Process{{Name: "a", Body: 0}}},
		{Nodes: smallest().Nodes, Processes: []impl.Process{{Name: "a", Body: -1}}},
		{Nodes: smallest().Nodes, Processes: []impl.Process{{Name: "a", Body: 2}}},
		{Nodes: smallest().Nodes, Processes: []impl.Process{{Name: "a", Body: math.MaxInt}}},
		{Nodes: smallest().Nodes, Processes: []impl.Process{{Name: "A", Body: 1}}},
		{Nodes: smallest().Nodes, Processes: []impl.Process{{Name: "", Body: 1}}},
		{Nodes: smallest().Nodes, Monitors: []impl.Monitor{{Name: "m"}}, Processes: []impl.Process{{Name: "a", Body: 1}}},
		{Nodes: smallest().Nodes, Monitors: make([]impl.Monitor, 100000), Processes: make([]impl.Process, 100000)},
	} {
		if got := impl.ScopeOf(p); got != impl.ScNames {
			t.Errorf("ScopeOf a program that isn't right, with %d nodes = %d", len(p.Nodes), got)
		}
	}
}

func TestScopeOfNodesThatAreNotRight(t *testing.T) {
	p := readFrom(t, everyKind)
	for k := range p.Nodes {
		for _, kind := range notKinds {
			was := p.Nodes[k]
			p.Nodes[k].Kind = kind
			scopeIs(t, "with a node of no kind", p, impl.ScNames)
			p.Nodes[k] = was
		}
		kids := p.Nodes[k].Kids
		for _, kid := range []int{math.MinInt, -1, k, k + 1, len(p.Nodes), math.MaxInt} {
			p.Nodes[k].Kids = append(slices.Clone(kids), kid)
			scopeIs(t, "with a kid more", p, impl.ScNames)
			for i, was := range kids {
				p.Nodes[k].Kids = slices.Clone(kids)
				p.Nodes[k].Kids[i] = kid
				scopeIs(t, "with another kid for "+impl.Decimal(was), p, impl.ScNames)
			}
		}
		p.Nodes[k].Kids = kids
	}
	scopeIs(t, "with all as it was", p, 0)
}
