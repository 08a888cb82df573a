package tests

import (
	"fmt"
	"math"
	"slices"
	"strings"
	"testing"

	"loop.example/g00290/impl"
)

// codeOf are lines from their texts: `a:` is a place, four figures are a word, and `>a` behind them is its Target.
func codeOf(text string) []impl.Line {
	of := []impl.Line{}
	for part := range strings.SplitSeq(text, ", ") {
		fields := strings.Fields(part)
		switch {
		case len(fields) == 0:
		case len(fields) == 1:
			of = append(of, mark(strings.TrimSuffix(part, ":")))
		default:
			l := impl.Line{}
			fmt.Sscan(part, &l.Ins.Op, &l.Ins.A, &l.Ins.B, &l.Ins.C)
			if len(fields) == 5 {
				l.Target = fields[4][1:]
			}
			of = append(of, l)
		}
	}
	return of
}

// lockOf are the lines of a lock with these two labels.
func lockOf(again, taken string) string {
	return fmt.Sprintf("%s:, 9 7 0 0, 7 7 0 0 >%s, 8 0 0 0 >%s, %s:", again, taken, again, taken)
}

// lockAt is a lock whose labels are this number and the next one.
func lockAt(n int) string { return lockOf(fmt.Sprint("l", n), fmt.Sprint("l", n+1)) }

// code are texts of lines, one behind the other; those of nothing are left out.
func code(texts ...string) string {
	return strings.Join(slices.DeleteFunc(texts, func(text string) bool { return text == "" }), ", ")
}

// codeTold tells all lines of a list as codeOf reads them.
func codeTold(of []impl.Line) string {
	told := []string{}
	for _, l := range of[:min(len(of), 200)] {
		text := fmt.Sprintf("%s:", l.Label)
		if l.Ins != (impl.Ins{}) || l.Target != "" {
			text = fmt.Sprint(l.Ins.Op, " ", l.Ins.A, " ", l.Ins.B, " ", l.Ins.C)
		}
		if l.Target != "" {
			text += " >" + l.Target
		}
		told = append(told, text)
	}
	return fmt.Sprintf("%d lines: %s", len(of), strings.Join(told, ", "))
}

func genTold(g impl.Gen) string { return fmt.Sprint(g.Next, " ", g.Bad, " ", codeTold(g.Lines)) }

func sameGen(a, b impl.Gen) bool {
	return a.Next == b.Next && a.Bad == b.Bad && slices.Equal(a.Lines, b.Lines)
}

func genAgrees(t *testing.T, what string, got, want impl.Gen) {
	t.Helper()
	if !sameGen(got, want) {
		t.Errorf("%.3000s\nis   %s\nwant %s", what, genTold(got), genTold(want))
	}
}

// theYard has two monitors and two processes: places 1 and 2 are the Vars of m, 3 is that of n, 4 is that of a, with 5 and 6 for its calls, 7 and 8 are those of b, with 9 and 10 for its calls.
const theYard = "monitor m ; var u , v ; queue p ; entry e ( x ) begin ENTRY end ; entry f ( x ) begin skip end ; end ; " +
	"monitor n ; var c ; queue q , r ; entry f ( u ) begin c := u end ; entry g ( c ) begin GATE end ; end ; " +
	"process a uses m , n ; var v ; begin FIRST end ; process b uses n , m ; var v , w ; begin SECOND end ; ."

// yard is this program, with these statements where they stand; skip where none are told.
func yard(t *testing.T, statements map[string]string) impl.Program {
	t.Helper()
	text := theYard
	for _, where := range []string{"ENTRY", "GATE", "FIRST", "SECOND"} {
		told, found := statements[where]
		if !found {
			told = "skip"
		}
		text = strings.Replace(text, where, told, 1)
	}
	return readFrom(t, text)
}

// yardWith is the yard with statements of the second process.
func yardWith(t *testing.T, statements string) impl.Program {
	t.Helper()
	return yard(t, map[string]string{"SECOND": statements})
}

// secondIs asks for the words of the second process's statements, and how many labels they take.
func secondIs(t *testing.T, statements string, words string, labels int) {
	t.Helper()
	p := yardWith(t, statements)
	of := impl.GenBlock(p, impl.Gen{}, 1, p.Processes[1].Body, placesOf("v w", 7, 8), -1, "")
	genAgrees(t, statements, of, impl.Gen{Lines: codeOf(words), Next: labels})
}

// entryIs asks for the words of statements in the entry g of n, which the second process is in, and goes out of by the label out.
func entryIs(t *testing.T, statements string, words string, labels int) {
	t.Helper()
	p := yard(t, map[string]string{"GATE": statements})
	of := impl.GenBlock(p, impl.Gen{}, 1, p.Monitors[1].Entries[1].Body, placesOf("c result", 3, 10), 1, "out")
	genAgrees(t, statements, of, impl.Gen{Lines: codeOf(words), Next: labels})
}

func TestSysConstants(t *testing.T) {
	for i, n := range list(impl.SysEnter, impl.SysLeave, impl.SysDelay, impl.SysCont, impl.SysPrint, impl.SysRead, impl.SysDone) {
		if n != i+1 {
			t.Errorf("constant %d is %d", i+1, n)
		}
	}
}

func TestWordsOfEachStatement(t *testing.T) {
	secondIs(t, "skip", "", 0)
	secondIs(t, "v := 5", "1 0 0 5, 3 0 0 7", 0)
	secondIs(t, "w := v", "2 0 0 7, 3 0 0 8", 0)
	secondIs(t, "v := w - v * 3", "2 0 0 8, 2 1 0 7, 1 2 0 3, 4 1 2 3, 4 0 1 2, 3 0 0 7", 0)
	secondIs(t, "print 7", "1 0 0 7, 10 5 0 0", 0)
	secondIs(t, "print not w", "2 0 0 8, 5 0 0 0, 10 5 0 0", 0)
	secondIs(t, "read v", "10 6 0 0, 3 0 0 7", 0)
	secondIs(t, "read w", "10 6 0 0, 3 0 0 8", 0)
	secondIs(t, "if v then begin skip end", "2 0 0 7, 7 0 0 0 >l0, 8 0 0 0 >l1, l0:, l1:", 2)
	secondIs(t, "if v then begin skip end else begin skip end", "2 0 0 7, 7 0 0 0 >l0, 8 0 0 0 >l1, l0:, l1:", 2)
	secondIs(t, "if 1 then begin print 2 end", "1 0 0 1, 7 0 0 0 >l0, 1 0 0 2, 10 5 0 0, 8 0 0 0 >l1, l0:, l1:", 2)
	secondIs(t, "if 1 then begin print 2 end else begin read w ; v := 3 end", "1 0 0 1, 7 0 0 0 >l0, 1 0 0 2, 10 5 0 0, 8 0 0 0 >l1, l0:, 10 6 0 0, 3 0 0 8, 1 0 0 3, 3 0 0 7, l1:", 2)
	secondIs(t, "while v < 3 do begin v := v + 1 end", "l0:, 2 0 0 7, 1 1 0 3, 4 0 1 6, 7 0 0 0 >l1, 2 0 0 7, 1 1 0 1, 4 0 1 1, 3 0 0 7, 8 0 0 0 >l0, l1:", 2)
	secondIs(t, "while 0 do begin skip end", "l0:, 1 0 0 0, 7 0 0 0 >l1, 8 0 0 0 >l0, l1:", 2)
}

func TestWordsOfStatementsInOrder(t *testing.T) {
	statements := []struct {
		text, words string
		labels      int
	}{
		{"skip", "", 0}, {"v := 5", "1 0 0 5, 3 0 0 7", 0}, {"print w", "2 0 0 8, 10 5 0 0", 0}, {"read w", "10 6 0 0, 3 0 0 8", 0},
		{"if 4 then begin print 5 end", "1 0 0 4, 7 0 0 0 >A, 1 0 0 5, 10 5 0 0, 8 0 0 0 >B, A:, B:", 2},
		{"while w do begin read w end", "A:, 2 0 0 8, 7 0 0 0 >B, 10 6 0 0, 3 0 0 8, 8 0 0 0 >A, B:", 2},
	}
	// Each one ahead of each one, and between others.
	for _, first := range statements {
		for _, second := range statements {
			texts, words, labels := []string{}, []string{}, 0
			for _, s := range append(statements[1:3:3], first, second, statements[3]) {
				numbered := strings.NewReplacer("A", fmt.Sprint("l", labels), "B", fmt.Sprint("l", labels+1)).Replace(s.words)
				texts, words, labels = append(texts, s.text), append(words, numbered), labels+s.labels
			}
			secondIs(t, strings.Join(texts, " ; "), code(words...), labels)
		}
	}
}

func TestWordsOfStatementsInStatements(t *testing.T) {
	secondIs(t, "if v then begin if w then begin print 1 end else begin print 2 end ; print 3 end else begin while v do begin print 4 end end",
		"2 0 0 7, 7 0 0 0 >l0, 2 0 0 8, 7 0 0 0 >l1, 1 0 0 1, 10 5 0 0, 8 0 0 0 >l2, l1:, 1 0 0 2, 10 5 0 0, l2:, 1 0 0 3, 10 5 0 0, "+
			"8 0 0 0 >l3, l0:, l4:, 2 0 0 7, 7 0 0 0 >l5, 1 0 0 4, 10 5 0 0, 8 0 0 0 >l4, l5:, l3:", 6)
	secondIs(t, "while v do begin while w do begin skip end ; if 1 then begin read v end end ; while 2 do begin skip end",
		"l0:, 2 0 0 7, 7 0 0 0 >l1, l2:, 2 0 0 8, 7 0 0 0 >l3, 8 0 0 0 >l2, l3:, 1 0 0 1, 7 0 0 0 >l4, 10 6 0 0, 3 0 0 7, 8 0 0 0 >l5, l4:, l5:, 8 0 0 0 >l0, l1:, "+
			"l6:, 1 0 0 2, 7 0 0 0 >l7, 8 0 0 0 >l6, l7:", 8)
	secondIs(t, "if 1 then begin if 2 then begin if 3 then begin print 4 end end end",
		"1 0 0 1, 7 0 0 0 >l0, 1 0 0 2, 7 0 0 0 >l1, 1 0 0 3, 7 0 0 0 >l2, 1 0 0 4, 10 5 0 0, 8 0 0 0 >l3, l2:, l3:, 8 0 0 0 >l4, l1:, l4:, 8 0 0 0 >l5, l0:, l5:", 6)
}

// callTo is what stands ahead of an entry's block, of a process whose calls are at this place: its labels begin with this number.
func callTo(value string, at, label, monitor int) string {
	return code(value, fmt.Sprintf("3 0 0 %d, 1 0 0 0, 3 0 0 %d", at, at+1), lockAt(label+1), fmt.Sprint("10 1 0 ", monitor))
}

// callEnd is what stands behind it: the lock's labels begin with the second number, the first one is that of the way out.
func callEnd(label, lock, monitor int, to string) string {
	return code(lockAt(lock), fmt.Sprint("10 2 0 ", monitor), fmt.Sprintf("l%d:", label), to)
}

func TestWordsOfCalls(t *testing.T) {
	secondIs(t, "call m . f ( 4 )", code(callTo("1 0 0 4", 9, 0, 0), callEnd(0, 3, 0, "")), 5)
	secondIs(t, "call m . f ( 4 ) to v", code(callTo("1 0 0 4", 9, 0, 0), callEnd(0, 3, 0, "2 0 0 10, 3 0 0 7")), 5)
	secondIs(t, "call m . f ( v + 1 ) to w", code(callTo("2 0 0 7, 1 1 0 1, 4 0 1 1", 9, 0, 0), callEnd(0, 3, 0, "2 0 0 10, 3 0 0 8")), 5)
	// The Param of n's f is no Var of the process, nor one of m.
	secondIs(t, "call n . f ( v )", code(callTo("2 0 0 7", 9, 0, 1), "2 0 0 9, 3 0 0 3", callEnd(0, 3, 1, "")), 5)
	secondIs(t, "call n . g ( v ) to v", code(callTo("2 0 0 7", 9, 0, 1), callEnd(0, 3, 1, "2 0 0 10, 3 0 0 7")), 5)
	secondIs(t, "call m . f ( 1 ) ; call n . f ( 2 ) to w ; call m . f ( 3 )", code(
		callTo("1 0 0 1", 9, 0, 0), callEnd(0, 3, 0, ""),
		callTo("1 0 0 2", 9, 5, 1), "2 0 0 9, 3 0 0 3", callEnd(5, 8, 1, "2 0 0 10, 3 0 0 8"),
		callTo("1 0 0 3", 9, 10, 0), callEnd(10, 13, 0, "")), 15)
	secondIs(t, "if v then begin call m . f ( 1 ) to v end", code("2 0 0 7, 7 0 0 0 >l0", callTo("1 0 0 1", 9, 1, 0), callEnd(1, 4, 0, "2 0 0 10, 3 0 0 7"), "8 0 0 0 >l6, l0:, l6:"), 7)
}

// Each process has places of its own for what it calls with, and all of them the same for what is a monitor's.
func TestCallsOfEachProcess(t *testing.T) {
	entry := "u := x + v ; v := u ; result := u ; print result"
	words := func(arg int) string {
		return fmt.Sprintf("2 0 0 %d, 2 1 0 2, 4 0 1 1, 3 0 0 1, 2 0 0 1, 3 0 0 2, 2 0 0 1, 3 0 0 %d, 2 0 0 %d, 10 5 0 0", arg, arg+1, arg+1)
	}
	p := yard(t, map[string]string{"ENTRY": entry, "FIRST": "call m . e ( v ) to v", "SECOND": "call m . e ( v ) to v"})
	for process, at := range list(4, 7) {
		arg := list(5, 9)[process]
		of := impl.GenBlock(p, impl.Gen{}, process, p.Processes[process].Body, impl.OwnPlaces(p, process), -1, "")
		want := code(callTo(fmt.Sprint("2 0 0 ", at), arg, 0, 0), words(arg), callEnd(0, 3, 0, fmt.Sprintf("2 0 0 %d, 3 0 0 %d", arg+1, at)))
		genAgrees(t, "a call", of, impl.Gen{Lines: codeOf(want), Next: 5})
		// The block of another one may be asked for, too: its calls are with the places of this one.
		other := impl.GenBlock(p, impl.Gen{}, 1-process, p.Processes[process].Body, impl.OwnPlaces(p, process), -1, "")
		want = code(callTo(fmt.Sprint("2 0 0 ", at), 14-arg, 0, 0), words(14-arg), callEnd(0, 3, 0, fmt.Sprintf("2 0 0 %d, 3 0 0 %d", 15-arg, at)))
		genAgrees(t, "a call by the other one", other, impl.Gen{Lines: codeOf(want), Next: 5})
	}
}

func TestWordsInEntries(t *testing.T) {
	entryIs(t, "skip", "", 0)
	entryIs(t, "c := 3 ; result := c ; print result", "1 0 0 3, 3 0 0 3, 2 0 0 3, 3 0 0 10, 2 0 0 10, 10 5 0 0", 0)
	entryIs(t, "delay q", code(lockAt(0), "10 3 0 2"), 2)
	entryIs(t, "delay r", code(lockAt(0), "10 3 0 3"), 2)
	entryIs(t, "continue q", code(lockAt(0), "10 4 0 2, 8 0 0 0 >out"), 2)
	entryIs(t, "continue r", code(lockAt(0), "10 4 0 3, 8 0 0 0 >out"), 2)
	entryIs(t, "delay q ; c := 1", code(lockAt(0), "10 3 0 2, 1 0 0 1, 3 0 0 3"), 2)
	// What stands behind a continue has its words, too.
	entryIs(t, "continue q ; c := 1 ; continue r", code(lockAt(0), "10 4 0 2, 8 0 0 0 >out, 1 0 0 1, 3 0 0 3", lockAt(2), "10 4 0 3, 8 0 0 0 >out"), 4)
	entryIs(t, "if c then begin delay q ; c := 2 end else begin continue r end ; c := 1", code("2 0 0 3, 7 0 0 0 >l0", lockAt(1), "10 3 0 2, 1 0 0 2, 3 0 0 3, 8 0 0 0 >l3, l0:", lockAt(4), "10 4 0 3, 8 0 0 0 >out, l3:, 1 0 0 1, 3 0 0 3"), 6)
	entryIs(t, "while c do begin delay q ; continue r end", code("l0:, 2 0 0 3, 7 0 0 0 >l1", lockAt(2), "10 3 0 2", lockAt(4), "10 4 0 3, 8 0 0 0 >out, 8 0 0 0 >l0, l1:"), 6)
}

// The first queue of the first monitor is 0, the second one of the last is 1 more than twice its place; where a monitor has one queue, the next one begins with its own number.
func TestNumbersOfQueues(t *testing.T) {
	p := readFrom(t, "monitor m ; queue p , q ; entry e ( x ) begin delay p ; continue q end ; end ; monitor n ; queue q ; entry e ( x ) begin delay q end ; end ; monitor o ; queue q , p ; entry e ( x ) begin delay q ; delay p end ; end ; "+
		"process a uses m , n , o ; begin call m . e ( 1 ) ; call n . e ( 2 ) ; call o . e ( 3 ) end ; .")
	of := impl.GenBlock(p, impl.Gen{}, 0, p.Processes[0].Body, impl.OwnPlaces(p, 0), -1, "")
	want := code(callTo("1 0 0 1", 1, 0, 0), lockAt(3), "10 3 0 0", lockAt(5), "10 4 0 1, 8 0 0 0 >l0", callEnd(0, 7, 0, ""),
		callTo("1 0 0 2", 1, 9, 1), lockAt(12), "10 3 0 2", callEnd(9, 14, 1, ""),
		callTo("1 0 0 3", 1, 16, 2), lockAt(19), "10 3 0 4", lockAt(21), "10 3 0 5", callEnd(16, 23, 2, ""))
	genAgrees(t, "queues", of, impl.Gen{Lines: codeOf(want), Next: 25})
	// A queue that stands twice is the first one.
	p.Monitors[2].Queues = []string{"q", "q", "p"}
	again := impl.GenBlock(p, impl.Gen{}, 0, p.Monitors[2].Entries[0].Body, impl.Places{}, 2, "back")
	genAgrees(t, "a queue that stands twice", again, impl.Gen{Lines: codeOf(code(lockAt(0), "10 3 0 4", lockAt(2), "10 3 0 6")), Next: 4})
}

// A way out goes behind the leave, to where the result is fetched, wherever it is: at the end, in an if, in a while, and behind a delay.
func TestWaysOutOfAnEntry(t *testing.T) {
	p := yard(t, map[string]string{"ENTRY": "if x then begin result := 1 ; continue p end ; while u do begin delay p ; if v then begin continue p end end ; result := 2", "SECOND": "call m . e ( w ) to w ; print w"})
	of := impl.GenBlock(p, impl.Gen{}, 1, p.Processes[1].Body, impl.OwnPlaces(p, 1), -1, "")
	want := code(callTo("2 0 0 8", 9, 0, 0),
		"2 0 0 9, 7 0 0 0 >l3, 1 0 0 1, 3 0 0 10", lockAt(4), "10 4 0 0, 8 0 0 0 >l0, 8 0 0 0 >l6, l3:, l6:",
		"l7:, 2 0 0 1, 7 0 0 0 >l8", lockAt(9), "10 3 0 0", "2 0 0 2, 7 0 0 0 >l11", lockAt(12), "10 4 0 0, 8 0 0 0 >l0, 8 0 0 0 >l14, l11:, l14:, 8 0 0 0 >l7, l8:",
		"1 0 0 2, 3 0 0 10", callEnd(0, 15, 0, "2 0 0 10, 3 0 0 8"), "2 0 0 8, 10 5 0 0")
	genAgrees(t, "ways out", of, impl.Gen{Lines: codeOf(want), Next: 17})
	text, ok := impl.Assemble(of.Lines)
	back := impl.PlaceOf(of.Lines, "l0")
	if !ok || back < 1 || text[back-1] != wordOf(impl.InSys, impl.SysLeave, 0, 0) || text[back] != wordOf(impl.InLoad, 0, 0, 10) {
		t.Errorf("the way out is at %d of %s", back, codeTold(of.Lines))
	}
}

// The label back is taken as it is told; of none, the jump has none.
func TestTheLabelBack(t *testing.T) {
	p := yard(t, map[string]string{"GATE": "continue q"})
	for _, back := range []string{"out", "l0", "l1", "abcdefghijklmnopq", " ", "", "\xff"} {
		want := append(codeOf(code(lockAt(0), "10 4 0 2")), aimed(back, impl.InJump, 0, 0, 0))
		genAgrees(t, "back", impl.GenBlock(p, impl.Gen{}, 0, p.Monitors[1].Entries[1].Body, impl.Places{}, 1, back), impl.Gen{Lines: want, Next: 2})
	}
}

func TestWordsBehindOthers(t *testing.T) {
	ahead := append(codeOf("l0:, 1 1 0 3, 8 0 0 0 >l0, x:"), impl.Line{Label: "odd", Ins: insOf(99, -1, 8, 5), Target: "nowhere"})
	for _, next := range list(0, 1, 7, 12, 99, 1<<40) {
		label := func(i int) string { return fmt.Sprint("l", next+i) }
		p := yardWith(t, "print 1 ; if v then begin skip end ; call m . f ( 2 )")
		of := impl.GenBlock(p, impl.Gen{Lines: ahead, Next: next}, 1, p.Processes[1].Body, impl.OwnPlaces(p, 1), -1, "")
		text := code("1 0 0 1, 10 5 0 0, 2 0 0 7", "7 0 0 0 >"+label(0), "8 0 0 0 >"+label(1), label(0)+":", label(1)+":", callTo("1 0 0 2", 9, next+2, 0), callEnd(next+2, next+5, 0, ""))
		genAgrees(t, "words behind others", of, impl.Gen{Lines: append(slices.Clone(ahead), codeOf(text)...), Next: next + 7})
		genAgrees(t, "a lock behind others", impl.GenLock(impl.Gen{Lines: ahead, Next: next}), impl.Gen{Lines: append(slices.Clone(ahead), codeOf(lockAt(next))...), Next: next + 2})
		nothing := yardWith(t, "skip")
		genAgrees(t, "nothing behind others", impl.GenBlock(nothing, impl.Gen{Lines: ahead, Next: next}, 1, nothing.Processes[1].Body, impl.Places{}, -1, ""), impl.Gen{Lines: ahead, Next: next})
	}
}

// A number below 0 is told as 0, and behind the greatest one comes the least.
func TestNumbersOfLabels(t *testing.T) {
	p := yardWith(t, "while 3 do begin if 4 then begin skip end end")
	body := p.Processes[1].Body
	for _, c := range []struct {
		next   int
		labels [4]string
	}{
		{0, [4]string{"l0", "l1", "l2", "l3"}}, {9, [4]string{"l9", "l10", "l11", "l12"}}, {-1, [4]string{"l0", "l0", "l1", "l2"}},
		{-2, [4]string{"l0", "l0", "l0", "l1"}}, {-3, [4]string{"l0", "l0", "l0", "l0"}}, {-100, [4]string{"l0", "l0", "l0", "l0"}},
		{math.MinInt, [4]string{"l0", "l0", "l0", "l0"}}, {99999999999 - 1, [4]string{"l99999999998", "l99999999999", "l100000000000", "l100000000001"}},
		{math.MaxInt, [4]string{"l9223372036854775807", "l0", "l0", "l0"}}, {math.MaxInt - 1, [4]string{"l9223372036854775806", "l9223372036854775807", "l0", "l0"}},
	} {
		// The sum runs over, as the numbers do.
		next := c.next
		genAgrees(t, fmt.Sprint("a lock from ", next), impl.GenLock(impl.Gen{Next: next}), impl.Gen{Lines: codeOf(lockOf(c.labels[0], c.labels[1])), Next: next + 2})
		words := strings.NewReplacer("A", c.labels[0], "B", c.labels[1], "C", c.labels[2], "D", c.labels[3]).Replace("A:, 1 0 0 3, 7 0 0 0 >B, 1 0 0 4, 7 0 0 0 >C, 8 0 0 0 >D, C:, D:, 8 0 0 0 >A, B:")
		genAgrees(t, fmt.Sprint("a block from ", next), impl.GenBlock(p, impl.Gen{Next: next}, 1, body, impl.Places{}, -1, ""), impl.Gen{Lines: codeOf(words), Next: next + 4})
	}
}

// A lock goes round as long as place 0 has something else than 0, and touches nothing else.
func TestALockIsRun(t *testing.T) {
	g := impl.GenLock(impl.GenLock(impl.Gen{}))
	if g.Next != 4 || len(g.Lines) != 10 {
		t.Fatalf("two locks are %s", genTold(g))
	}
	text, _ := impl.Assemble(g.Lines[:5])
	free, steps := runsOn(coreOf(0, 1, otherRegs()...), text, list(0, 5), 100)
	if steps != 3 || free.Core.Pc != len(text) || !slices.Equal(free.Mem, list(1, 5)) || !slices.Equal(free.Core.Regs, with(otherRegs(), 7, 0)) {
		t.Errorf("a free lock: %s behind %d steps", steppedTold(free), steps)
	}
	for _, held := range list(1, -1, 7) {
		s, steps := runsOn(coreOf(0, 1, otherRegs()...), text, list(held, 5), 90)
		if steps != 90 || s.Code != goesOn || !slices.Equal(s.Mem, list(1, 5)) {
			t.Errorf("a lock that is held: %s behind %d steps", steppedTold(s), steps)
		}
		s.Mem[0] = 0
		s, _ = runsOn(s.Core, text, s.Mem, 100)
		if s.Core.Pc != len(text) || s.Mem[0] != 1 {
			t.Errorf("a lock that is given back: %s", steppedTold(s))
		}
	}
}

// A Param that is called as one of the monitor's Vars is the Param, and a Var that is called result is none.
func TestNamesOfTwoKinds(t *testing.T) {
	p := yard(t, map[string]string{"GATE": "c := c + 1", "SECOND": "call n . g ( 5 )"})
	want := code(callTo("1 0 0 5", 9, 0, 1), "2 0 0 9, 1 1 0 1, 4 0 1 1, 3 0 0 9", callEnd(0, 3, 1, ""))
	genAgrees(t, "a Param called as a Var", impl.GenBlock(p, impl.Gen{}, 1, p.Processes[1].Body, impl.OwnPlaces(p, 1), -1, ""), impl.Gen{Lines: codeOf(want), Next: 5})
	p.Monitors[1].Vars[0] = "result"
	p.Monitors[1].Entries[1].Param = "c"
	p.Nodes[placeOfNth(t, p, impl.NdSet, 1)].Name = "result"
	want = code(callTo("1 0 0 5", 9, 0, 1), "2 0 0 9, 1 1 0 1, 4 0 1 1, 3 0 0 10", callEnd(0, 3, 1, ""))
	genAgrees(t, "a Var called result", impl.GenBlock(p, impl.Gen{}, 1, p.Processes[1].Body, impl.OwnPlaces(p, 1), -1, ""), impl.Gen{Lines: codeOf(want), Next: 5})
}

// Places may be any: two names at one place, a name twice, and the place of the lock.
func TestBlocksWithOtherPlaces(t *testing.T) {
	p := yardWith(t, "v := w ; read w")
	body := p.Processes[1].Body
	for _, c := range []struct {
		x    impl.Places
		v, w int
	}{
		{placesOf("v w", 4, 4), 4, 4}, {placesOf("w v w", 0, 9, 3), 9, 0}, {placesOf("x w v", 1, impl.MaxArg, 99), 99, impl.MaxArg}, {placesOf("v w x", 1, math.MaxInt), 1, math.MaxInt},
	} {
		want := []impl.Line{plain(impl.InLoad, 0, 0, c.w), plain(impl.InStore, 0, 0, c.v), plain(impl.InSys, impl.SysRead, 0, 0), plain(impl.InStore, 0, 0, c.w)}
		genAgrees(t, placesTold(c.x), impl.GenBlock(p, impl.Gen{}, 1, body, c.x, -1, ""), impl.Gen{Lines: want})
	}
}

// Two monitors, entries or processes of one name: the first one is called.
func TestCallsOfTheFirstOfOneName(t *testing.T) {
	p := yardWith(t, "call m . f ( 4 )")
	p.Monitors[1].Name = "m"
	p.Monitors[0].Entries[0].Name = "f"
	p.Nodes[placeOfNth(t, p, impl.NdSkip, 0)] = impl.Node{Kind: impl.NdCont, Name: "p"}
	want := code(callTo("1 0 0 4", 9, 0, 0), lockAt(3), "10 4 0 0, 8 0 0 0 >l0", callEnd(0, 5, 0, ""))
	genAgrees(t, "the first of one name", impl.GenBlock(p, impl.Gen{}, 1, p.Processes[1].Body, impl.Places{}, -1, ""), impl.Gen{Lines: codeOf(want), Next: 7})
}

// Any number below 0 is outside, whatever block it is.
func TestMonitorsBelowZero(t *testing.T) {
	p := yardWith(t, "call m . f ( 4 ) ; print 3")
	want := impl.Gen{Lines: codeOf(code(callTo("1 0 0 4", 9, 0, 0), callEnd(0, 3, 0, ""), "1 0 0 3, 10 5 0 0")), Next: 5}
	for _, monitor := range list(-1, -2, -100, math.MinInt) {
		genAgrees(t, "outside", impl.GenBlock(p, impl.Gen{}, 1, p.Processes[1].Body, impl.Places{}, monitor, "back"), want)
	}
	// Where no gate is passed, any number will do, and any process.
	p = yardWith(t, "print 3 ; read v ; if 1 then begin v := 2 end")
	want = impl.Gen{Lines: codeOf("1 0 0 3, 10 5 0 0, 10 6 0 0, 3 0 0 7, 1 0 0 1, 7 0 0 0 >l0, 1 0 0 2, 3 0 0 7, 8 0 0 0 >l1, l0:, l1:"), Next: 2}
	for _, n := range list(-1, 0, 1, 2, 3, 4, 100, math.MaxInt, math.MinInt) {
		genAgrees(t, "any monitor and process", impl.GenBlock(p, impl.Gen{}, n, p.Processes[1].Body, placesOf("v", 7), n, "back"), want)
	}
}
