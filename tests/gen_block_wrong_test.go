package tests

import (
	"fmt"
	"math"
	"slices"
	"strings"
	"testing"

	"loop.example/g00290/impl"
)

// tooDeep is a value that wants eight registers.
const tooDeep = "1 + ( 1 + ( 1 + ( 1 + ( 1 + ( 1 + ( 1 + 1 ) ) ) ) ) )"

// secondFails asks for what is put of the second process's statements, which are Bad, and how many labels they take; and that neither what stands behind them nor what holds them put more.
func secondFails(t *testing.T, statements string, words string, labels int) {
	t.Helper()
	aloneFails(t, statements, words, labels)
	heldFails(t, statements, words, labels)
}

// aloneFails asks it where nothing holds them.
func aloneFails(t *testing.T, statements string, words string, labels int) {
	t.Helper()
	wrapped := []struct {
		ahead, behind, words string
		labels               int
	}{
		{"", "", "", 0}, {"", " ; print 9 ; while 1 do begin skip end ; call m . f ( 1 )", "", 0}, {"print 8 ; ", " ; print 9", "1 0 0 8, 10 5 0 0", 0},
	}
	for _, around := range wrapped {
		p := yardWith(t, around.ahead+statements+around.behind)
		of := impl.GenBlock(p, impl.Gen{}, 1, p.Processes[1].Body, placesOf("v w", 7, 8), -1, "")
		genAgrees(t, around.ahead+statements+around.behind, of, impl.Gen{Lines: codeOf(code(around.words, words)), Next: labels, Bad: true})
	}
}

// shifted are words whose labels are so many more.
func shifted(words string, by int) string {
	parts := strings.Split(words, "l")
	for i, part := range parts[1:] {
		figures := len(part) - len(strings.TrimLeft(part, "0123456789"))
		n := 0
		fmt.Sscan(part[:figures], &n)
		parts[i+1] = fmt.Sprint(n+by) + part[figures:]
	}
	return strings.Join(parts, "l")
}

// heldFails asks the same where they stand in an if, in its second block, and in a while: the labels of these are taken to the end.
func heldFails(t *testing.T, statements string, words string, labels int) {
	t.Helper()
	behind := "print 9 ; while 1 do begin skip end"
	for _, c := range []struct {
		text, ahead    string
		before, labels int
	}{
		{"if v then begin HERE ; BEHIND end else begin BEHIND end ; BEHIND", "2 0 0 7, 7 0 0 0 >l0", 1, 2},
		{"if v then begin print 1 end else begin HERE ; BEHIND end ; BEHIND", "2 0 0 7, 7 0 0 0 >l0, 1 0 0 1, 10 5 0 0, 8 0 0 0 >l1, l0:", 2, 2},
		{"while v do begin HERE ; BEHIND end ; BEHIND", "l0:, 2 0 0 7, 7 0 0 0 >l1", 2, 2},
		{"while v do begin if w then begin HERE ; BEHIND end else begin BEHIND end ; BEHIND end ; BEHIND", "l0:, 2 0 0 7, 7 0 0 0 >l1, 2 0 0 8, 7 0 0 0 >l2", 3, 4},
	} {
		text := strings.NewReplacer("HERE", statements, "BEHIND", behind).Replace(c.text)
		p := yardWith(t, text)
		of := impl.GenBlock(p, impl.Gen{}, 1, p.Processes[1].Body, placesOf("v w", 7, 8), -1, "")
		genAgrees(t, text, of, impl.Gen{Lines: codeOf(code(c.ahead, shifted(words, c.before))), Next: labels + c.labels, Bad: true})
	}
}

func TestBlocksWithNamesThatAreNowhere(t *testing.T) {
	for _, name := range []string{"none", "u", "c", "x", "result", "p", "m", "e", "vv"} {
		secondFails(t, name+" := 5", "1 0 0 5", 0)
		secondFails(t, name+" := v + w", "2 0 0 7, 2 1 0 8, 4 0 1 1", 0)
		secondFails(t, "v := "+name, "", 0)
		secondFails(t, "v := 1 + - "+name, "", 0)
		secondFails(t, "print "+name, "", 0)
		secondFails(t, "read "+name, "10 6 0 0", 0)
		secondFails(t, "if "+name+" then begin print 1 ; if 2 then begin skip end end", "", 2)
		secondFails(t, "if "+name+" then begin print 1 end else begin read v end", "", 2)
		secondFails(t, "while "+name+" do begin print 1 ; call m . f ( 2 ) end", "l0:", 2)
		secondFails(t, "call m . f ( "+name+" )", "", 5)
		secondFails(t, "call n . f ( "+name+" ) to v", "", 5)
		secondFails(t, "call m . f ( 4 ) to "+name, code(callTo("1 0 0 4", 9, 0, 0), callEnd(0, 3, 0, "2 0 0 10")), 5)
		secondFails(t, "call n . f ( v ) to "+name, code(callTo("2 0 0 7", 9, 0, 1), "2 0 0 9, 3 0 0 3", callEnd(0, 3, 1, "2 0 0 10")), 5)
	}
}

func TestBlocksWithValuesThatCannotBe(t *testing.T) {
	seven := "1 + ( 1 + ( 1 + ( 1 + ( 1 + ( 1 + 1 ) ) ) ) )"
	words := "1 0 0 1, 1 1 0 1, 1 2 0 1, 1 3 0 1, 1 4 0 1, 1 5 0 1, 1 6 0 1, 4 5 6 1, 4 4 5 1, 4 3 4 1, 4 2 3 1, 4 1 2 1, 4 0 1 1"
	secondIs(t, "v := "+seven, words+", 3 0 0 7", 0)
	secondIs(t, "print "+seven, words+", 10 5 0 0", 0)
	// With more around them these would be too deep to be read.
	aloneFails(t, "v := "+tooDeep, "", 0)
	aloneFails(t, "print "+tooDeep, "", 0)
	aloneFails(t, "none := "+tooDeep, "", 0)
	aloneFails(t, "if "+tooDeep+" then begin print 1 end else begin print 2 end", "", 2)
	aloneFails(t, "while "+tooDeep+" do begin print 1 end", "l0:", 2)
	aloneFails(t, "call m . f ( "+tooDeep+" ) to v", "", 5)
}

func TestCallsThatAreNowhere(t *testing.T) {
	ahead := "1 0 0 4, 3 0 0 9, 1 0 0 0, 3 0 0 10"
	for _, to := range []string{"", " to v", " to none"} {
		for _, call := range []string{"none . e", "a . e", "b . f", "q . f", "mm . e"} {
			secondFails(t, "call "+call+" ( 4 )"+to, code(ahead, lockAt(1)), 5)
		}
		secondFails(t, "call m . g ( 4 )"+to, code(callTo("1 0 0 4", 9, 0, 0)), 5)
		secondFails(t, "call m . none ( 4 )"+to, code(callTo("1 0 0 4", 9, 0, 0)), 5)
		secondFails(t, "call n . e ( 4 )"+to, code(callTo("1 0 0 4", 9, 0, 1)), 5)
	}
	// The first of what is not there counts.
	secondFails(t, "call none . none ( none )", "", 5)
	secondFails(t, "call none . none ( v ) to none", code("2 0 0 7, 3 0 0 9, 1 0 0 0, 3 0 0 10", lockAt(1)), 5)
}

// Outside there are no queues, whatever their names; what asks for one is put as far as its lock.
func TestQueuesThatAreNowhere(t *testing.T) {
	for _, name := range []string{"p", "q", "r", "none", "v"} {
		secondFails(t, "delay "+name, lockAt(0), 2)
		secondFails(t, "continue "+name, lockAt(0), 2)
	}
	for _, name := range []string{"p", "none", "c", "g", "n"} {
		for _, word := range []string{"delay ", "continue "} {
			p := yard(t, map[string]string{"GATE": "c := 1 ; if c then begin " + word + name + " ; c := 2 end ; c := 3"})
			of := impl.GenBlock(p, impl.Gen{}, 1, p.Monitors[1].Entries[1].Body, placesOf("c", 3), 1, "out")
			genAgrees(t, word+name, of, impl.Gen{Lines: codeOf(code("1 0 0 1, 3 0 0 3, 2 0 0 3, 7 0 0 0 >l0", lockAt(1))), Next: 4, Bad: true})
		}
	}
	p := yard(t, map[string]string{"GATE": "delay q"})
	for _, monitor := range list(-1, -2, 0, 2, 3, 100, math.MaxInt, math.MinInt) {
		of := impl.GenBlock(p, impl.Gen{}, 1, p.Monitors[1].Entries[1].Body, placesOf("c", 3), monitor, "out")
		genAgrees(t, fmt.Sprint("a queue of monitor ", monitor), of, impl.Gen{Lines: codeOf(lockAt(0)), Next: 2, Bad: true})
	}
}

// In an entry no call is put, not even its value; its labels are taken.
func TestCallsAreBadInEntries(t *testing.T) {
	p := yard(t, map[string]string{"GATE": "c := 1 ; while c do begin call m . f ( c ) to c ; c := 2 end ; c := 3"})
	body := p.Monitors[1].Entries[1].Body
	for _, monitor := range list(0, 1, 2, 100, math.MaxInt) {
		of := impl.GenBlock(p, impl.Gen{}, 1, body, placesOf("c", 3), monitor, "out")
		genAgrees(t, "a call in an entry", of, impl.Gen{Lines: codeOf("1 0 0 1, 3 0 0 3, l0:, 2 0 0 3, 7 0 0 0 >l1"), Next: 7, Bad: true})
	}
	// So are those of a call that leads there, with its own ones behind.
	p = yard(t, map[string]string{"GATE": "c := 1 ; call m . f ( c ) ; c := 3", "SECOND": "call n . g ( 4 ) to v ; print 1"})
	of := impl.GenBlock(p, impl.Gen{Next: 20}, 1, p.Processes[1].Body, placesOf("v w", 7, 8), -1, "")
	genAgrees(t, "a call of an entry that calls", of, impl.Gen{Lines: codeOf(code(callTo("1 0 0 4", 9, 20, 1), "1 0 0 1, 3 0 0 9")), Next: 30, Bad: true})
	p = yard(t, map[string]string{"GATE": "if c then begin read c ; delay none end else begin skip end", "SECOND": "call n . g ( 4 ) to v ; print 1"})
	of = impl.GenBlock(p, impl.Gen{}, 1, p.Processes[1].Body, placesOf("v w", 7, 8), -1, "")
	want := code(callTo("1 0 0 4", 9, 0, 1), "2 0 0 9, 7 0 0 0 >l3, 10 6 0 0, 3 0 0 9", lockAt(4))
	genAgrees(t, "a call of an entry that goes wrong", of, impl.Gen{Lines: codeOf(want), Next: 9, Bad: true})
}

// A process that is not there has no places for a call; the value is put ahead of them.
func TestCallsOfProcessesThatAreNowhere(t *testing.T) {
	p := yardWith(t, "print 3 ; call m . f ( 4 ) to v ; print 5")
	for _, process := range list(-1, -2, 2, 3, 100, math.MaxInt, math.MinInt) {
		of := impl.GenBlock(p, impl.Gen{Next: 7}, process, p.Processes[1].Body, placesOf("v w", 7, 8), -1, "")
		genAgrees(t, fmt.Sprint("a call of process ", process), of, impl.Gen{Lines: codeOf("1 0 0 3, 10 5 0 0, 1 0 0 4"), Next: 12, Bad: true})
	}
	alone := impl.Program{Nodes: p.Nodes}
	of := impl.GenBlock(alone, impl.Gen{}, 0, p.Processes[1].Body, placesOf("v w", 7, 8), -1, "")
	genAgrees(t, "a call of no program", of, impl.Gen{Lines: codeOf("1 0 0 3, 10 5 0 0, 1 0 0 4"), Next: 5, Bad: true})
	alone.Processes = p.Processes
	of = impl.GenBlock(alone, impl.Gen{}, 1, p.Processes[1].Body, placesOf("v w", 7, 8), -1, "")
	want := code("1 0 0 3, 10 5 0 0, 1 0 0 4, 3 0 0 6, 1 0 0 0, 3 0 0 7", lockAt(1))
	genAgrees(t, "a call where no monitor is", of, impl.Gen{Lines: codeOf(want), Next: 5, Bad: true})
}

func TestBlocksThatAreNowhere(t *testing.T) {
	p := yardWith(t, "print 3 ; call m . f ( 4 ) to v ; if 5 then begin skip end ; while 6 do begin skip end ; v := w ; read v")
	ahead := codeOf("x:, 1 0 0 3")
	stays := func(p impl.Program, k int) {
		t.Helper()
		for _, monitor := range list(-1, 0) {
			of := impl.GenBlock(p, impl.Gen{Lines: ahead, Next: 3}, 1, k, placesOf("v w", 7, 8), monitor, "out")
			genAgrees(t, fmt.Sprint("no block at ", k), of, impl.Gen{Lines: ahead, Next: 3, Bad: true})
		}
	}
	for _, k := range placesBeyond(len(p.Nodes)) {
		stays(p, k)
	}
	for k, node := range p.Nodes {
		if node.Kind != impl.NdBlock {
			stays(p, k)
		}
	}
	for _, kind := range notKinds {
		stays(impl.Program{Nodes: []impl.Node{{Kind: impl.NdSkip}, {Kind: kind, Kids: list(0)}}}, 1)
	}
	for _, k := range list(-1, 0, 1, math.MaxInt, math.MinInt) {
		stays(impl.Program{}, k)
	}
	room := withRooms(p)
	stays(room, len(room.Nodes))
}

// An entry whose Body is no block, of calls that are right otherwise.
func TestEntriesWithoutABlock(t *testing.T) {
	for _, body := range list(-1, 0, 1, 100, math.MaxInt, math.MinInt) {
		p := yardWith(t, "call m . f ( 4 ) to v ; print 1")
		p.Monitors[0].Entries[1].Body = body
		of := impl.GenBlock(p, impl.Gen{}, 1, p.Processes[1].Body, placesOf("v", 7), -1, "")
		if body == 1 {
			// There is the block of the first entry.
			genAgrees(t, "another block", of, impl.Gen{Lines: codeOf(code(callTo("1 0 0 4", 9, 0, 0), callEnd(0, 3, 0, "2 0 0 10, 3 0 0 7"), "1 0 0 1, 10 5 0 0")), Next: 5})
			continue
		}
		genAgrees(t, fmt.Sprint("an entry whose Body is ", body), of, impl.Gen{Lines: codeOf(callTo("1 0 0 4", 9, 0, 0)), Next: 5, Bad: true})
	}
	// The block of the process itself, in which the call is one within an entry.
	p := yardWith(t, "print 1 ; call m . f ( 4 ) to v ; print 2")
	p.Monitors[0].Entries[1].Body = p.Processes[1].Body
	of := impl.GenBlock(p, impl.Gen{}, 1, p.Processes[1].Body, placesOf("v", 7), -1, "")
	genAgrees(t, "an entry that is the process", of, impl.Gen{Lines: codeOf(code("1 0 0 1, 10 5 0 0", callTo("1 0 0 4", 9, 0, 0), "1 0 0 1, 10 5 0 0")), Next: 10, Bad: true})
}

// ofNodesAt is what becomes of a block behind these nodes, outside and in a monitor without queues.
func ofNodesAt(nodes ...impl.Node) impl.Gen {
	p := impl.Program{Nodes: nodes, Monitors: []impl.Monitor{{Name: "m"}}, Processes: []impl.Process{{Vars: []string{"v"}}}}
	return impl.GenBlock(p, impl.Gen{}, 0, len(nodes)-1, placesOf("v", 1), -1, "")
}

// nodesAre asks it, the last one being a block of the one ahead of it, and a print of the first one, which is a number.
func nodesAre(t *testing.T, words string, labels int, isBad bool, nodes ...impl.Node) {
	t.Helper()
	all := append([]impl.Node{{Kind: impl.NdNum, Num: 3}, {Kind: impl.NdPrint, Kids: list(0)}, {Kind: impl.NdBlock, Kids: list(1)}}, nodes...)
	all = append(all, impl.Node{Kind: impl.NdBlock, Kids: list(1, len(all)-1, 1)})
	words = code("1 0 0 3, 10 5 0 0", words)
	if !isBad {
		words = code(words, "1 0 0 3, 10 5 0 0")
	}
	genAgrees(t, fmt.Sprintf("%+v", nodes), ofNodesAt(all...), impl.Gen{Lines: codeOf(words), Next: labels, Bad: isBad})
}

// What stands in a block and is no statement has no words, as one that is nowhere.
func TestBlocksOfWhatIsNoStatement(t *testing.T) {
	nodesAre(t, "", 0, true, impl.Node{Kind: impl.NdNum, Num: 4})
	nodesAre(t, "", 0, true, impl.Node{Kind: impl.NdVar, Name: "v"})
	nodesAre(t, "", 0, true, impl.Node{Kind: impl.NdNot, Kids: list(0)})
	nodesAre(t, "", 0, true, impl.Node{Kind: impl.NdCalc, Num: 1, Kids: list(0, 0)})
	nodesAre(t, "", 0, true, impl.Node{Kind: impl.NdBlock, Kids: list(1)})
	nodesAre(t, "", 0, true, impl.Node{Kind: impl.NdBlock})
	for _, kind := range notKinds {
		nodesAre(t, "", 0, true, impl.Node{Kind: kind, Kids: list(0)})
	}
	for _, kid := range list(-1, -2, 3, 4, 100, math.MaxInt, math.MinInt) {
		of := ofNodesAt(impl.Node{Kind: impl.NdNum, Num: 3}, impl.Node{Kind: impl.NdPrint, Kids: list(0)}, impl.Node{Kind: impl.NdBlock, Kids: list(1, kid, 1)})
		genAgrees(t, fmt.Sprint("a statement at ", kid), of, impl.Gen{Lines: codeOf("1 0 0 3, 10 5 0 0"), Bad: true})
	}
	// A block of nothing has no words, and that is all.
	genAgrees(t, "a block of nothing", ofNodesAt(impl.Node{Kind: impl.NdBlock}), impl.Gen{})
}

// Kids that are missing, or aren't what they should be.
func TestStatementsWithWrongKids(t *testing.T) {
	one, value, loop := "1 0 0 3", "1 0 0 3, 7 0 0 0 >l0", "l0:, 1 0 0 3, 7 0 0 0 >l1"
	both := code(value, "1 0 0 3, 10 5 0 0, 8 0 0 0 >l1, l0:")
	for _, wrong := range list(-1, -2, 1, 2, 3, 4, 100, math.MaxInt, math.MinInt) {
		for _, kids := range [][]int{{}, {wrong}, {wrong, 0}} {
			nodesAre(t, "", 0, true, impl.Node{Kind: impl.NdPrint, Kids: kids})
			nodesAre(t, "", 0, true, impl.Node{Kind: impl.NdSet, Name: "v", Kids: kids})
			nodesAre(t, "", 5, true, impl.Node{Kind: impl.NdCall, Name: "m", More: "e", Kids: kids})
		}
		for _, kids := range [][]int{{}, {wrong}, {wrong, 2}, {wrong, 2, 2}} {
			nodesAre(t, "", 2, true, impl.Node{Kind: impl.NdIf, Kids: kids})
			nodesAre(t, "l0:", 2, true, impl.Node{Kind: impl.NdWhile, Kids: kids})
		}
		if wrong != 2 {
			nodesAre(t, value, 2, true, impl.Node{Kind: impl.NdIf, Kids: list(0, wrong)})
			nodesAre(t, value, 2, true, impl.Node{Kind: impl.NdIf, Kids: list(0, wrong, 2)})
			nodesAre(t, both, 2, true, impl.Node{Kind: impl.NdIf, Kids: list(0, 2, wrong)})
			nodesAre(t, loop, 2, true, impl.Node{Kind: impl.NdWhile, Kids: list(0, wrong)})
		}
	}
	nodesAre(t, value, 2, true, impl.Node{Kind: impl.NdIf, Kids: list(0)})
	nodesAre(t, loop, 2, true, impl.Node{Kind: impl.NdWhile, Kids: list(0)})
	nodesAre(t, one+", 3 0 0 2, 1 0 0 0, 3 0 0 3, "+lockAt(1)+", 10 1 0 0", 5, true, impl.Node{Kind: impl.NdCall, Name: "m", More: "e", Kids: list(0)})
}

// Whether a statement is right is not asked: what it needs is taken from it as it stands.
func TestStatementsThatAreNotRight(t *testing.T) {
	nodesAre(t, "1 0 0 3, 10 5 0 0", 0, false, impl.Node{Kind: impl.NdPrint, Num: 8, Name: "x", More: "y", To: "z", Kids: list(0, 1, 2)})
	nodesAre(t, "1 0 0 3, 3 0 0 1", 0, false, impl.Node{Kind: impl.NdSet, Num: 8, Name: "v", More: "y", To: "z", Kids: list(0, 0)})
	nodesAre(t, "10 6 0 0, 3 0 0 1", 0, false, impl.Node{Kind: impl.NdRead, Num: 8, Name: "v", More: "y", Kids: list(0, 1)})
	nodesAre(t, "", 0, false, impl.Node{Kind: impl.NdSkip, Num: 8, Name: "none", Kids: list(0, 1, 2)})
	words := "1 0 0 3, 10 5 0 0, 8 0 0 0 >l1, l0:, 1 0 0 3, 10 5 0 0, l1:"
	nodesAre(t, "1 0 0 3, 7 0 0 0 >l0, "+words, 2, false, impl.Node{Kind: impl.NdIf, Name: "x", Kids: list(0, 2, 2)})
	nodesAre(t, "1 0 0 3, 7 0 0 0 >l0, "+words, 2, false, impl.Node{Kind: impl.NdIf, Kids: list(0, 2, 2, 1, 0)})
	nodesAre(t, "l0:, 1 0 0 3, 7 0 0 0 >l1, 1 0 0 3, 10 5 0 0, 8 0 0 0 >l0, l1:", 2, false, impl.Node{Kind: impl.NdWhile, To: "x", Kids: list(0, 2, 1)})
	// Names are looked for, whatever they are.
	for _, name := range append([]string{""}, notNames...) {
		p := impl.Program{Nodes: []impl.Node{{Kind: impl.NdVar, Name: name}, {Kind: impl.NdSet, Name: name, Kids: list(0)}, {Kind: impl.NdRead, Name: name}, {Kind: impl.NdBlock, Kids: list(1, 2)}}}
		of := impl.GenBlock(p, impl.Gen{}, 0, 3, impl.Places{Names: []string{"v", name}, Ats: list(4, 5)}, -1, "")
		genAgrees(t, name, of, impl.Gen{Lines: codeOf("2 0 0 5, 3 0 0 5, 10 6 0 0, 3 0 0 5")})
	}
}

// A value that has no depth can't be, also where something ahead of it is the cause; statements ahead of it have their words, and so have those behind it that have no value.
func TestBlocksWithNodesWithoutADepth(t *testing.T) {
	number, deep := impl.Node{Kind: impl.NdNum, Num: 3}, chain(12).Nodes
	at := len(deep)
	p := impl.Program{Nodes: append(deep, number, impl.Node{Kind: impl.NdPrint, Kids: list(10)}, impl.Node{Kind: impl.NdPrint, Kids: list(9)}, impl.Node{Kind: impl.NdPrint, Kids: list(at)}, impl.Node{Kind: impl.NdSkip}, impl.Node{Kind: impl.NdRead, Name: "v"})}
	nine := strings.Repeat(", 5 0 0 0", 9)
	for _, c := range []struct {
		kids  []int
		words string
		isBad bool
	}{
		{list(at + 2), "1 0 0 0" + nine + ", 10 5 0 0", false}, {list(at + 1), "", true}, {list(at + 3), "", true}, {list(at + 4), "", false}, {list(at + 5), "10 6 0 0, 3 0 0 7", false},
		{list(at+5, at+2, at+4, at+3, at+5), "10 6 0 0, 3 0 0 7, 1 0 0 0" + nine + ", 10 5 0 0", true},
	} {
		with := impl.Program{Nodes: append(slices.Clone(p.Nodes), impl.Node{Kind: impl.NdBlock, Kids: c.kids})}
		of := impl.GenBlock(with, impl.Gen{}, 0, at+6, placesOf("v", 7), -1, "")
		genAgrees(t, fmt.Sprint("statements ", c.kids), of, impl.Gen{Lines: codeOf(c.words), Bad: c.isBad})
	}
	// Deeper than a tree may be: the values have a depth, being ahead of what is too deep.
	for _, ifs := range list(4, 5, 6, 40) {
		p := ifsWithin(ifs)
		if deep := impl.DeepOf(p, len(p.Nodes)-1); (deep > 0) != (ifs < 5) {
			t.Errorf("%d ifs are %d deep", ifs, deep)
		}
		of := impl.GenBlock(p, impl.Gen{}, 0, len(p.Nodes)-1, impl.Places{}, -1, "")
		if of.Bad || of.Next != 2*ifs || len(of.Lines) != 5*ifs {
			t.Errorf("%d ifs are %s", ifs, genTold(of))
		}
	}
}

// ifsWithin is a block with so many ifs within each other; their values stand ahead of them all.
func ifsWithin(ifs int) impl.Program {
	g := grower{}
	for n := range ifs {
		g.number(n)
	}
	block := g.add(plainNode(impl.NdBlock, g.add(plainNode(impl.NdSkip))))
	for n := range ifs {
		block = g.add(plainNode(impl.NdBlock, g.add(plainNode(impl.NdIf, n, block))))
	}
	return g.p
}

// A block that is within itself has no end, and is none there; so is one that stands behind what holds it.
func TestBlocksWithinThemselves(t *testing.T) {
	number, skip := impl.Node{Kind: impl.NdNum, Num: 3}, impl.Node{Kind: impl.NdSkip}
	block := func(kids ...int) impl.Node { return impl.Node{Kind: impl.NdBlock, Kids: kids} }
	of := ofNodesAt(number, impl.Node{Kind: impl.NdWhile, Kids: list(0, 2)}, block(1))
	genAgrees(t, "a while of its block", of, impl.Gen{Lines: codeOf("l0:, 1 0 0 3, 7 0 0 0 >l1"), Next: 2, Bad: true})
	of = ofNodesAt(number, skip, block(1), impl.Node{Kind: impl.NdIf, Kids: list(0, 2, 4)}, block(3))
	genAgrees(t, "an if of its block", of, impl.Gen{Lines: codeOf("1 0 0 3, 7 0 0 0 >l0, 8 0 0 0 >l1, l0:"), Next: 2, Bad: true})
	of = ofNodesAt(number, block(1), block(2))
	genAgrees(t, "a block of itself", of, impl.Gen{Bad: true})
	p := impl.Program{Nodes: []impl.Node{number, {Kind: impl.NdIf, Kids: list(0, 4)}, block(1), {Kind: impl.NdIf, Kids: list(0, 2)}, block(3), skip}}
	for _, k := range list(2, 4) {
		if of := impl.GenBlock(p, impl.Gen{}, 0, k, impl.Places{}, -1, ""); !of.Bad || of.Next != k || len(of.Lines) != k {
			t.Errorf("two blocks within each other are %s", genTold(of))
		}
	}
	p.Nodes[4].Kids = list(5)
	if of := impl.GenBlock(p, impl.Gen{}, 0, 2, impl.Places{}, -1, ""); !of.Bad || of.Next != 2 || len(of.Lines) != 2 {
		t.Errorf("a block behind its if is %s", genTold(of))
	}
}

// A place below 0 is none, whatever number it is told by.
func TestPlacesBelowZero(t *testing.T) {
	p := yardWith(t, "print 3 ; v := w ; print 4")
	for _, at := range list(-1, -2, -1<<32, math.MinInt) {
		of := impl.GenBlock(p, impl.Gen{}, 1, p.Processes[1].Body, placesOf("v w", at, 5), -1, "")
		genAgrees(t, "a store below 0", of, impl.Gen{Lines: codeOf("1 0 0 3, 10 5 0 0, 2 0 0 5"), Bad: true})
		of = impl.GenBlock(p, impl.Gen{}, 1, p.Processes[1].Body, placesOf("v w", 5, at), -1, "")
		genAgrees(t, "a load from below 0", of, impl.Gen{Lines: codeOf("1 0 0 3, 10 5 0 0"), Bad: true})
	}
	of := impl.GenBlock(p, impl.Gen{}, 1, p.Processes[1].Body, placesOf("w v", 5), -1, "")
	genAgrees(t, "a name whose place is missing", of, impl.Gen{Lines: codeOf("1 0 0 3, 10 5 0 0, 2 0 0 5"), Bad: true})
}

// What is Bad stays so: nothing more is put, and no statement is gone through; a lock takes its labels.
func TestWhatIsBadAsItComesIn(t *testing.T) {
	p := yardWith(t, "print 3 ; if 1 then begin skip end ; call m . f ( 4 )")
	for _, next := range list(0, 5, -3, math.MaxInt, math.MinInt) {
		for _, ahead := range [][]impl.Line{nil, codeOf("x:, 1 0 0 3, 8 0 0 0 >x")} {
			bad := impl.Gen{Lines: ahead, Next: next, Bad: true}
			for k := -1; k <= len(p.Nodes); k++ {
				genAgrees(t, "a block that is Bad", impl.GenBlock(p, bad, 1, k, placesOf("v w", 7, 8), -1, ""), bad)
			}
			genAgrees(t, "a lock that is Bad", impl.GenLock(bad), impl.Gen{Lines: ahead, Next: next + 2, Bad: true})
		}
	}
}
