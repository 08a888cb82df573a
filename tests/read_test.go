package tests

import (
	"fmt"
	"math"
	"slices"
	"strings"
	"testing"

	"loop.example/g00290/impl"
)

// told is all of a program in one text, in which an empty list and nil are alike.
func told(p impl.Program) string { return fmt.Sprintf("%+v", p) }

// readsAs asks that a text be read as this program.
func readsAs(t *testing.T, text string, want impl.Program) {
	t.Helper()
	if got, fault := impl.ReadProgram(text); fault != 0 || told(got) != told(want) {
		t.Errorf("ReadProgram(%.300q) = %+v, %d; want %+v, 0", text, got, fault, want)
	}
}

// readingGoesWrong asks that a text be no program, and that the place be told at which it goes wrong.
func readingGoesWrong(t *testing.T, text string, at int) {
	t.Helper()
	if got, fault := impl.ReadProgram(text); told(got) != told(impl.Program{}) || fault != at+1 {
		t.Errorf("ReadProgram(%.300q) = %+v, %d; want nothing, %d", text, got, fault, at+1)
	}
}

// endsTooSoon asks that a text go on, and be no program yet.
func endsTooSoon(t *testing.T, text string) {
	t.Helper()
	readingGoesWrong(t, text, len(text))
}

// isReadButNotRight asks that a text be read whole, and be a program that isn't right.
func isReadButNotRight(t *testing.T, text string) {
	t.Helper()
	readingGoesWrong(t, text, 0)
}

// penned are the signs of a program, with brackets around every operation.
type penned struct {
	p     impl.Program
	signs []string
}

func (w *penned) put(signs ...string) { w.signs = append(w.signs, signs...) }

func (w *penned) names(word string, list []string) {
	for i, name := range list {
		if i == 0 {
			w.put(word, name)
		} else {
			w.put(",", name)
		}
	}
}

func (w *penned) declared(word string, list []string) {
	if len(list) > 0 {
		w.names(word, list)
		w.put(";")
	}
}

var theOperations = []string{"", "+", "-", "*", "/", "%", "<", "=", "and", "or"}

func (w *penned) value(k int) {
	node := w.p.Nodes[k]
	switch node.Kind {
	case impl.NdNum:
		w.put(fmt.Sprint(node.Num))
	case impl.NdVar:
		w.put(node.Name)
	case impl.NdCalc:
		w.put("(")
		w.value(node.Kids[0])
		w.put(theOperations[node.Num])
		w.value(node.Kids[1])
		w.put(")")
	case impl.NdNot:
		w.put("not")
		w.value(node.Kids[0])
	case impl.NdNeg:
		w.put("-")
		w.value(node.Kids[0])
	}
}

func (w *penned) statement(k int) {
	node := w.p.Nodes[k]
	switch node.Kind {
	case impl.NdSet:
		w.put(node.Name, ":=")
		w.value(node.Kids[0])
	case impl.NdIf:
		w.put("if")
		w.value(node.Kids[0])
		w.put("then")
		w.block(node.Kids[1])
		if len(node.Kids) == 3 {
			w.put("else")
			w.block(node.Kids[2])
		}
	case impl.NdWhile:
		w.put("while")
		w.value(node.Kids[0])
		w.put("do")
		w.block(node.Kids[1])
	case impl.NdCall:
		w.put("call", node.Name, ".", node.More, "(")
		w.value(node.Kids[0])
		w.put(")")
		w.names("to", strings.Fields(node.To))
	case impl.NdPrint:
		w.put("print")
		w.value(node.Kids[0])
	case impl.NdRead, impl.NdDelay, impl.NdCont:
		w.put(map[int]string{impl.NdRead: "read", impl.NdDelay: "delay", impl.NdCont: "continue"}[node.Kind], node.Name)
	case impl.NdSkip:
		w.put("skip")
	}
}

func (w *penned) block(k int) {
	w.put("begin")
	for i, statement := range w.p.Nodes[k].Kids {
		if i > 0 {
			w.put(";")
		}
		w.statement(statement)
	}
	w.put("end")
}

// signsIn are the signs that tell a program.
func signsIn(p impl.Program) []string {
	w := penned{p: p}
	for _, m := range p.Monitors {
		w.put("monitor", m.Name, ";")
		w.declared("var", m.Vars)
		w.declared("queue", m.Queues)
		for _, entry := range m.Entries {
			w.put("entry", entry.Name, "(", entry.Param, ")")
			w.block(entry.Body)
			w.put(";")
		}
		w.put("end", ";")
	}
	for _, process := range p.Processes {
		w.put("process", process.Name)
		w.names("uses", process.Uses)
		w.put(";")
		w.declared("var", process.Vars)
		w.block(process.Body)
		w.put(";")
	}
	w.put(".")
	return w.signs
}

// tight is a text of these signs with no blank that isn't needed.
func tight(signs []string) string {
	text := ""
	isOpen := func(s string, at int) bool {
		return s != "" && strings.IndexByte("abcdefghijklmnopqrstuvwxyz0123456789", s[at]) >= 0
	}
	for _, sign := range signs {
		if text != "" && isOpen(text, len(text)-1) && isOpen(sign, 0) {
			text += " "
		}
		text += sign
	}
	return text
}

// ended is the same program with its nodes in the order in which they end.
func ended(p impl.Program) impl.Program {
	out := copied(p)
	out.Nodes = nil
	var end func(k int) int
	end = func(k int) int {
		node := p.Nodes[k]
		node.Kids = nil
		for _, kid := range p.Nodes[k].Kids {
			node.Kids = append(node.Kids, end(kid))
		}
		out.Nodes = append(out.Nodes, node)
		return len(out.Nodes) - 1
	}
	for _, body := range bodiesOf(&out) {
		*body = end(*body)
	}
	return out
}

// everyKind is a text with every kind of statement and of value.
const everyKind = `# two monitors
monitor m ; var u , v ; queue q ;
  entry put ( x ) begin u := x ; delay q end ;
  entry get ( y ) begin continue q end ;
end ;
monitor last ; entry e ( p ) begin skip end ; end ;
process a uses m , last ; var r ; begin
  read r ;
  if r < 10 then begin r := - r end else begin r := not r end ;
  if r = 0 or 1 then begin skip end ;
  while r and 2 do begin r := r - 1 ; print r * 3 / 4 end ;
  call m . put ( r % 5 ) to r ;
  call m . get ( ( r + 6 ) )
end ;
process b ; begin print 007 end ;
.
`

func everyKindProgram() impl.Program {
	return impl.Program{
		Nodes: []impl.Node{
			{Kind: impl.NdVar, Name: "x"},
			{Kind: impl.NdSet, Name: "u", Kids: []int{0}},
			{Kind: impl.NdDelay, Name: "q"},
			{Kind: impl.NdBlock, Kids: []int{1, 2}},
			{Kind: impl.NdCont, Name: "q"},
			{Kind: impl.NdBlock, Kids: []int{4}},
			{Kind: impl.NdSkip},
			{Kind: impl.NdBlock, Kids: []int{6}},
			{Kind: impl.NdRead, Name: "r"},
			{Kind: impl.NdVar, Name: "r"},
			{Kind: impl.NdNum, Num: 10},
			{Kind: impl.NdCalc, Num: impl.OpLess, Kids: []int{9, 10}},
			{Kind: impl.NdVar, Name: "r"},
			{Kind: impl.NdNeg, Kids: []int{12}},
			{Kind: impl.NdSet, Name: "r", Kids: []int{13}},
			{Kind: impl.NdBlock, Kids: []int{14}},
			{Kind: impl.NdVar, Name: "r"},
			{Kind: impl.NdNot, Kids: []int{16}},
			{Kind: impl.NdSet, Name: "r", Kids: []int{17}},
			{Kind: impl.NdBlock, Kids: []int{18}},
			{Kind: impl.NdIf, Kids: []int{11, 15, 19}},
			{Kind: impl.NdVar, Name: "r"},
			{Kind: impl.NdNum},
			{Kind: impl.NdCalc, Num: impl.OpSame, Kids: []int{21, 22}},
			{Kind: impl.NdNum, Num: 1},
			{Kind: impl.NdCalc, Num: impl.OpOr, Kids: []int{23, 24}},
			{Kind: impl.NdSkip},
			{Kind: impl.NdBlock, Kids: []int{26}},
			{Kind: impl.NdIf, Kids: []int{25, 27}},
			{Kind: impl.NdVar, Name: "r"},
			{Kind: impl.NdNum, Num: 2},
			{Kind: impl.NdCalc, Num: impl.OpAnd, Kids: []int{29, 30}},
			{Kind: impl.NdVar, Name: "r"},
			{Kind: impl.NdNum, Num: 1},
			{Kind: impl.NdCalc, Num: impl.OpSub, Kids: []int{32, 33}},
			{Kind: impl.NdSet, Name: "r", Kids: []int{34}},
			{Kind: impl.NdVar, Name: "r"},
			{Kind: impl.NdNum, Num: 3},
			{Kind: impl.NdCalc, Num: impl.OpMul, Kids: []int{36, 37}},
			{Kind: impl.NdNum, Num: 4},
			{Kind: impl.NdCalc, Num: impl.OpDiv, Kids: []int{38, 39}},
			{Kind: impl.NdPrint, Kids: []int{40}},
			{Kind: impl.NdBlock, Kids: []int{35, 41}},
			{Kind: impl.NdWhile, Kids: []int{31, 42}},
			{Kind: impl.NdVar, Name: "r"},
			{Kind: impl.NdNum, Num: 5},
			{Kind: impl.NdCalc, Num: impl.OpMod, Kids: []int{44, 45}},
			{Kind: impl.NdCall, Name: "m", More: "put", To: "r", Kids: []int{46}},
			{Kind: impl.NdVar, Name: "r"},
			{Kind: impl.NdNum, Num: 6},
			{Kind: impl.NdCalc, Num: impl.OpAdd, Kids: []int{48, 49}},
			{Kind: impl.NdCall, Name: "m", More: "get", Kids: []int{50}},
			{Kind: impl.NdBlock, Kids: []int{8, 20, 28, 43, 47, 51}},
			{Kind: impl.NdNum, Num: 7},
			{Kind: impl.NdPrint, Kids: []int{53}},
			{Kind: impl.NdBlock, Kids: []int{54}},
		},
		Monitors: []impl.Monitor{
			{Name: "m", Vars: []string{"u", "v"}, Queues: []string{"q"}, Entries: []impl.Entry{{Name: "put", Param: "x", Body: 3}, {Name: "get", Param: "y", Body: 5}}},
			{Name: "last", Entries: []impl.Entry{{Name: "e", Param: "p", Body: 7}}},
		},
		Processes: []impl.Process{
			{Name: "a", Uses: []string{"m", "last"}, Vars: []string{"r"}, Body: 52},
			{Name: "b", Body: 55},
		},
	}
}

func TestReadsEveryKind(t *testing.T) {
	readsAs(t, everyKind, everyKindProgram())
	readsAs(t, "process a ; begin skip end ; .", smallest())
}

func TestReadsProgramsFromTheirSigns(t *testing.T) {
	programs := []impl.Program{smallest(), largest(), everyKindProgram()}
	for count := 8; count <= impl.MaxNodes; count++ {
		programs = append(programs, ofNodes(count))
	}
	for deep := 2; deep <= impl.MaxDeep; deep++ {
		programs = append(programs, deepProgram(deep))
	}
	for whiles := range 5 {
		programs = append(programs, ended(deepBlocks(whiles)))
	}
	for _, p := range programs {
		signs := signsIn(p)
		readsAs(t, tight(signs), p)
		if text := strings.Join(signs, " "); len(text) <= impl.MaxSource {
			readsAs(t, text, p)
			readsAs(t, strings.Join(signs, "\n"), p)
		}
	}
}

func TestReadsWhateverIsBetween(t *testing.T) {
	g := grower{}
	g.p.Monitors = []impl.Monitor{{Name: "m", Vars: []string{"v"}, Queues: []string{"q", "r"}, Entries: []impl.Entry{{Name: "e", Param: "x", Body: g.block(4)}}}}
	g.p.Processes = []impl.Process{{Name: "a", Uses: []string{"m"}, Body: g.block(3)}, {Name: "b", Body: g.block(2)}}
	signs := signsIn(g.p)
	for i, parted := range between {
		for j, other := range between {
			readsAs(t, parted+strings.Join(signs[:9], other)+parted+strings.Join(signs[9:20], parted)+other+tight(signs[20:])+parted, g.p)
			readsAs(t, other+tight(signs[:i+j])+parted+tight(signs[i+j:])+other+"# end", g.p)
		}
	}
}

// valueSeen is how a value is taken apart, in brackets; empty when it isn't read.
func valueSeen(value string) string {
	p, fault := impl.ReadProgram("process a ; begin print " + value + " end ; .")
	if fault != 0 {
		return ""
	}
	w := penned{p: p}
	w.value(p.Nodes[p.Nodes[p.Processes[0].Body].Kids[0]].Kids[0])
	return strings.Join(w.signs, " ")
}

func TestValuesAreTakenApart(t *testing.T) {
	for _, c := range []struct{ value, want string }{
		{"1", "1"}, {"a", "a"}, {"0", "0"}, {"999999", "999999"}, {"000012", "12"}, {"abcdefgh", "abcdefgh"},
		{"(1)", "1"}, {"((a))", "a"}, {"(((((7)))))", "7"},
		{"1 + 2 * 3", "( 1 + ( 2 * 3 ) )"},
		{"1 * 2 + 3", "( ( 1 * 2 ) + 3 )"},
		{"(1 + 2) * 3", "( ( 1 + 2 ) * 3 )"},
		{"1 * (2 + 3)", "( 1 * ( 2 + 3 ) )"},
		{"1 - 2 - 3", "( ( 1 - 2 ) - 3 )"},
		{"1 - (2 - 3)", "( 1 - ( 2 - 3 ) )"},
		{"1 / 2 * 3 % 4", "( ( ( 1 / 2 ) * 3 ) % 4 )"},
		{"1 % 2 * 3 / 4", "( ( ( 1 % 2 ) * 3 ) / 4 )"},
		{"1 and 2 or 3 and 4", "( ( ( 1 and 2 ) or 3 ) and 4 )"},
		{"1 or 2 and 3", "( ( 1 or 2 ) and 3 )"},
		{"1 or (2 and 3)", "( 1 or ( 2 and 3 ) )"},
		{"a < b and c = d", "( ( a < b ) and ( c = d ) )"},
		{"a + b < c * d or not e", "( ( ( a + b ) < ( c * d ) ) or not e )"},
		{"(a < b) < c", "( ( a < b ) < c )"},
		{"a = (b < c)", "( a = ( b < c ) )"},
		{"(a and b) < c", "( ( a and b ) < c )"},
		{"not a", "not a"}, {"not not a", "not not a"}, {"- 1", "- 1"}, {"--1", "- - 1"}, {"not - not 1", "not - not 1"},
		{"not a < b", "( not a < b )"},
		{"not (a < b)", "not ( a < b )"},
		{"not a + b", "( not a + b )"},
		{"not a and b", "( not a and b )"},
		{"- a * b", "( - a * b )"},
		{"- (a * b)", "- ( a * b )"},
		{"1 - - 2", "( 1 - - 2 )"},
		{"1 - -2 - 3", "( ( 1 - - 2 ) - 3 )"},
		{"1*-2", "( 1 * - 2 )"},
		{"a = not b", "( a = not b )"},
		{"a < -b", "( a < - b )"},
		{"(not a)", "not a"}, {"not (a)", "not a"}, {"-(-(1))", "- - 1"},
	} {
		if got := valueSeen(c.value); got != c.want {
			t.Errorf("%q is taken apart as %q, want %q", c.value, got, c.want)
		}
	}
}

// strength tells which operations are taken ahead of others.
var strength = map[string]int{"*": 4, "/": 4, "%": 4, "+": 3, "-": 3, "<": 2, "=": 2, "and": 1, "or": 1}

// grouped puts brackets around the strongest operation, of these the first, again and again.
func grouped(operands, operations []string) string {
	operands, operations = slices.Clone(operands), slices.Clone(operations)
	for len(operations) > 0 {
		first := 0
		for i, op := range operations {
			if strength[op] > strength[operations[first]] {
				first = i
			}
		}
		operands[first] = "( " + operands[first] + " " + operations[first] + " " + operands[first+1] + " )"
		operands = slices.Delete(operands, first+1, first+2)
		operations = slices.Delete(operations, first, first+1)
	}
	return operands[0]
}

// secondComparison is the number of the first comparison that is one too many in its part, -1 when none is.
func secondComparison(operations []string) int {
	seen := false
	for i, op := range operations {
		switch strength[op] {
		case 1:
			seen = false
		case 2:
			if seen {
				return i
			}
			seen = true
		}
	}
	return -1
}

func TestEveryThreeOperations(t *testing.T) {
	operands := []string{"a", "not b", "- 3", "d"}
	for _, one := range theOperations[1:] {
		for _, two := range theOperations[1:] {
			for _, three := range theOperations[1:] {
				operations := []string{one, two, three}
				ahead := "process p;begin print a"
				text := ahead
				wrong := secondComparison(operations)
				for i, op := range operations {
					if i == wrong {
						ahead = text
					}
					text += " " + op + " " + operands[i+1]
				}
				if wrong >= 0 {
					readingGoesWrong(t, text+" end;.", len(ahead)+1)
					continue
				}
				if got, want := valueSeen(text[len("process p;begin print "):]), grouped(operands, operations); got != want {
					t.Errorf("%v are taken apart as %q, want %q", operations, got, want)
				}
			}
		}
	}
}

// inBlock is a text of a process with these statements.
func inBlock(statements string) string {
	return "process a ; begin " + statements + " end ; ."
}

func TestValuesWhereverTheyStand(t *testing.T) {
	for _, c := range []struct{ ahead, behind string }{
		{"v := ", ""}, {"if ", " then begin skip end"}, {"if ", " then begin skip end else begin skip end"}, {"while ", " do begin skip end"},
		{"call m . e ( ", " )"}, {"call m . e ( ", " ) to v"}, {"print ", ""}, {"print ( ", " )"}, {"print not ( ", " )"}, {"print - ( ", " ) * 2"},
	} {
		for _, value := range []string{"1", "x", "1 < 2", "1 and 2", "not 1 = 2 or - 3", "( 1 )", "1 + 2 * 3 % 4"} {
			if _, fault := impl.ReadProgram(inBlock(c.ahead + value + c.behind)); fault != 0 {
				t.Errorf("%q with %q goes wrong: %d", c.ahead, value, fault)
			}
		}
		ahead := len("process a ; begin " + c.ahead)
		for _, wrong := range []string{")", "end", "then", "do", ";", "and 1", "* 2", "< 2", ":= 1", ", a", "begin", "to", "skip", ". 1"} {
			readingGoesWrong(t, inBlock(c.ahead+wrong+c.behind), ahead)
		}
		for _, wrong := range []string{"1 1", "1 x", "x 1", "x x", "1 not 2", "1 < 2 < 3", "1 = 2 < 3", "1 ( 2 )", "( 1 ) ( 2 )", "1 := 2", "1 . 2", "1 , 2", "1 begin"} {
			signs, _ := impl.SignsOf(wrong)
			at := signs[1].At
			switch wrong {
			case "1 < 2 < 3", "1 = 2 < 3", "( 1 ) ( 2 )":
				at = signs[3].At
			}
			readingGoesWrong(t, inBlock(c.ahead+wrong+c.behind), ahead+at)
		}
	}
}

func TestIfsAndCalls(t *testing.T) {
	skip, block := impl.Node{Kind: impl.NdSkip}, impl.Node{Kind: impl.NdBlock, Kids: []int{1}}
	readsAs(t, inBlock("if 1 then begin skip end"), impl.Program{
		Nodes:     []impl.Node{{Kind: impl.NdNum, Num: 1}, skip, block, {Kind: impl.NdIf, Kids: []int{0, 2}}, {Kind: impl.NdBlock, Kids: []int{3}}},
		Processes: []impl.Process{{Name: "a", Body: 4}},
	})
	readsAs(t, inBlock("if 1 then begin skip end else begin skip end"), impl.Program{
		Nodes:     []impl.Node{{Kind: impl.NdNum, Num: 1}, skip, block, skip, {Kind: impl.NdBlock, Kids: []int{3}}, {Kind: impl.NdIf, Kids: []int{0, 2, 4}}, {Kind: impl.NdBlock, Kids: []int{5}}},
		Processes: []impl.Process{{Name: "a", Body: 6}},
	})
	for _, to := range []string{"", "v", "abcdefgh"} {
		text := "call m . e ( 1 )"
		if to != "" {
			text += " to " + to
		}
		readsAs(t, inBlock(text), impl.Program{
			Nodes:     []impl.Node{{Kind: impl.NdNum, Num: 1}, {Kind: impl.NdCall, Name: "m", More: "e", To: to, Kids: []int{0}}, {Kind: impl.NdBlock, Kids: []int{1}}},
			Processes: []impl.Process{{Name: "a", Body: 2}},
		})
	}
}

func TestListsOfNames(t *testing.T) {
	for count := range 7 {
		for _, c := range []struct {
			most                int
			ahead, word, behind string
			seen                func(p impl.Program) []string
		}{
			{3, "monitor m ; ", "var", "; entry e ( x ) begin skip end ; end ; process a ; begin skip end ; .", func(p impl.Program) []string { return p.Monitors[0].Vars }},
			{2, "monitor m ; ", "queue", "; entry e ( x ) begin skip end ; end ; process a ; begin skip end ; .", func(p impl.Program) []string { return p.Monitors[0].Queues }},
			{2, "monitor m ; var v ; ", "queue", "; entry e ( x ) begin skip end ; end ; process a ; begin skip end ; .", func(p impl.Program) []string { return p.Monitors[0].Queues }},
			{3, "process a ", "uses", "; begin skip end ; .", func(p impl.Program) []string { return p.Processes[0].Uses }},
			{3, "process a ; ", "var", "; begin skip end ; .", func(p impl.Program) []string { return p.Processes[0].Vars }},
			{3, "process a uses m ; ", "var", "; begin skip end ; .", func(p impl.Program) []string { return p.Processes[0].Vars }},
		} {
			list := names(count)
			text := c.ahead + c.word + " " + strings.Join(list, " , ") + " " + c.behind
			switch {
			case count == 0:
				readingGoesWrong(t, text, strings.Index(text, c.word+"  ;")+len(c.word)+2)
			case count > c.most:
				isReadButNotRight(t, text)
			default:
				p, fault := impl.ReadProgram(text)
				if fault != 0 || !slices.Equal(c.seen(p), list) {
					t.Errorf("of %q: %+v, %d", text, p, fault)
				}
			}
		}
	}
}

func TestMonitorsWithoutEntries(t *testing.T) {
	isReadButNotRight(t, "monitor m ; end ; process a ; begin skip end ; .")
	isReadButNotRight(t, "monitor m ; var v ; end ; process a ; begin skip end ; .")
	isReadButNotRight(t, "monitor m ; queue q ; end ; process a ; begin skip end ; .")
	isReadButNotRight(t, "monitor m ; var v ; queue q ; end ; process a ; begin skip end ; .")
	isReadButNotRight(t, "monitor m ; entry e ( x ) begin skip end ; end ; monitor n ; end ; process a ; begin skip end ; .")
	isReadButNotRight(t, "monitor m ; end ; .")
	isReadButNotRight(t, "monitor m ; entry e ( x ) begin skip end ; end ; .")
	isReadButNotRight(t, ".")
	isReadButNotRight(t, " # nothing\n . \n")
}

func TestHowManyOfEach(t *testing.T) {
	process := "process a ; begin skip end ;"
	entry := "entry e ( x ) begin skip end ;"
	for count := range 7 {
		for _, c := range []struct {
			least, most int
			text        string
		}{
			{1, 4, strings.Repeat(process, count) + "."},
			{0, 3, strings.Repeat("monitor m ; "+entry+" end ;", count) + process + "."},
			{1, 3, "monitor m ; " + strings.Repeat(entry, count) + " end ;" + process + "."},
		} {
			if c.least <= count && count <= c.most {
				if p, fault := impl.ReadProgram(c.text); fault != 0 || len(p.Nodes) != 2*strings.Count(c.text, "skip") {
					t.Errorf("of %q: %+v, %d", c.text, p, fault)
				}
			} else {
				isReadButNotRight(t, c.text)
			}
		}
	}
	for count := 1; count < 20; count++ {
		text := inBlock(strings.Repeat("skip;", count-1) + "skip")
		if p, fault := impl.ReadProgram(text); (fault == 0) != (count <= 12) || fault == 0 && len(p.Nodes) != count+1 {
			t.Errorf("%d statements: %d nodes, %d", count, len(p.Nodes), fault)
		}
	}
	isReadButNotRight(t, inBlock(strings.Repeat("skip;", 12)+"skip"))
	isReadButNotRight(t, inBlock("while 1 do begin "+strings.Repeat("skip;", 12)+"skip end"))
}

func TestNumberOfNodesRead(t *testing.T) {
	for count := impl.MaxNodes - 3; count < impl.MaxNodes+4; count++ {
		text := tight(signsIn(ofNodes(count)))
		if count <= 160 {
			readsAs(t, text, ofNodes(count))
		} else {
			isReadButNotRight(t, text)
		}
	}
}

func TestHowDeepIsRead(t *testing.T) {
	for deep := 2; deep < 14; deep++ {
		text := tight(signsIn(deepProgram(deep)))
		if deep <= 10 {
			readsAs(t, text, deepProgram(deep))
		} else {
			isReadButNotRight(t, text)
		}
	}
	for whiles := range 8 {
		text := tight(signsIn(deepBlocks(whiles)))
		if whiles <= 4 {
			readsAs(t, text, ended(deepBlocks(whiles)))
		} else {
			isReadButNotRight(t, text)
		}
	}
	isReadButNotRight(t, inBlock("print "+strings.Repeat("not ", 400)+"1"))
	isReadButNotRight(t, inBlock("print "+strings.Repeat("- ", 400)+"1"))
	isReadButNotRight(t, inBlock("print 1"+strings.Repeat("+1", 200)))
}

func TestBracketsWithinBrackets(t *testing.T) {
	want := impl.Program{
		Nodes:     []impl.Node{{Kind: impl.NdNum, Num: 1}, {Kind: impl.NdNeg, Kids: []int{0}}, {Kind: impl.NdPrint, Kids: []int{1}}, {Kind: impl.NdBlock, Kids: []int{2}}},
		Processes: []impl.Process{{Name: "a", Body: 3}},
	}
	for _, pairs := range []int{0, 1, 2, 50, 244, 245} {
		text := inBlock("print " + strings.Repeat("(", pairs) + "- 1" + strings.Repeat(")", pairs))
		readsAs(t, text, want)
	}
	full := inBlock("print " + strings.Repeat("(", 245) + "- 1" + strings.Repeat(")", 245))
	if signs, _ := impl.SignsOf(full); len(signs) != impl.MaxSigns {
		t.Fatalf("%d signs", len(signs))
	}
	more := inBlock("print " + strings.Repeat("(", 246) + "1" + strings.Repeat(")", 246))
	readingGoesWrong(t, more, len(more)-1)
	endsTooSoon(t, "process a ; begin print "+strings.Repeat("(", 495))
	readingGoesWrong(t, "process a ; begin print "+strings.Repeat("(", 496), len("process a ; begin print ")+495)
	endsTooSoon(t, "process a ; begin print "+strings.Repeat("not ", 300))
	endsTooSoon(t, "process a ; begin "+strings.Repeat("if 1 then begin ", 80))
	few := inBlock("print " + strings.Repeat("(", 200) + "1" + strings.Repeat(")", 199))
	readingGoesWrong(t, few, len(few)-len("end ; ."))
	many := inBlock("print " + strings.Repeat("(", 199) + "1" + strings.Repeat(")", 200))
	readingGoesWrong(t, many, len(many)-len(") end ; ."))
}

func TestLengthOfSources(t *testing.T) {
	for _, pad := range []string{" ", "\n", "#"} {
		text := "process a ; begin skip end ; ."
		readsAs(t, text+strings.Repeat(pad, impl.MaxSource-len(text)), smallest())
		readingGoesWrong(t, text+strings.Repeat(pad, impl.MaxSource-len(text)+1), 0)
	}
	endsTooSoon(t, strings.Repeat(" ", impl.MaxSource))
	readingGoesWrong(t, strings.Repeat(" ", impl.MaxSource+1), 0)
	readingGoesWrong(t, strings.Repeat(" ", impl.MaxSource-1)+")", impl.MaxSource-1)
	readingGoesWrong(t, strings.Repeat(" ", impl.MaxSource)+")", 0)
}

func TestTextsThatEndTooSoon(t *testing.T) {
	for _, text := range []string{
		"", " ", "\n\n", "# only a remark", "#\n", "process", "process a", "process a ;", "process a ; ", "process a ; # .", "process a ; begin skip end", "process a ; begin skip end ;",
		"monitor", "monitor m ; end ;", "monitor m ; end ; # process\n", "process a ; begin v", "process a ; begin v :=", "process a ; begin v := 1", "process a ; begin call m .",
	} {
		endsTooSoon(t, text)
	}
}

func TestSomeTextsThatGoWrong(t *testing.T) {
	for _, c := range []struct {
		text string
		at   int
	}{
		{"process a ; begin v := end ; .", 23},
		{"end", 0}, {"  a", 2}, {"7", 0}, {"..", 1}, {". .", 2}, {".a", 1}, {". process", 2}, {"#\n;", 2},
		{"process a ; begin skip end ; . .", 31}, {"process a ; begin skip end ; . a", 31}, {"process a ; begin skip end ; . process b ; begin skip end ; .", 31},
		{"process a ; begin skip end .", 27}, {"process a ; begin skip end ; ;", 29}, {"process a ; begin skip end ; monitor", 29}, {"process a ; begin skip end ; begin", 29},
		{"process begin", 8}, {"process 1", 8}, {"process process", 8}, {"process ;", 8}, {"process a begin", 10}, {"process a , b", 10}, {"process a uses ;", 15}, {"process a uses m var", 17},
		{"process a uses m , ;", 19}, {"process a uses m m", 17}, {"process a ; uses", 12}, {"process a ; queue", 12}, {"process a ; var v ; var", 20}, {"process a ; var v begin", 18}, {"process a ; end", 12}, {"process a ; skip", 12},
		{"process a ; begin end", 18}, {"process a ; begin ;", 18}, {"process a ; begin skip ; end", 25}, {"process a ; begin skip ; ;", 25}, {"process a ; begin skip skip", 23}, {"process a ; begin skip , skip", 23}, {"process a ; begin begin", 18},
		{"process a ; begin 1 := 2", 18}, {"process a ; begin v = 2", 20}, {"process a ; begin v ( 2 )", 20}, {"process a ; begin v , w", 20}, {"process a ; begin to := 1", 18}, {"process a ; begin monitor := 1", 18},
		{"process a ; begin read 1", 23}, {"process a ; begin read end", 23}, {"process a ; begin delay ;", 24}, {"process a ; begin continue not", 27}, {"process a ; begin read v . w", 25}, {"process a ; begin print end", 24}, {"process a ; begin print print", 24},
		{"process a ; begin if 1 begin", 23}, {"process a ; begin if 1 do", 23}, {"process a ; begin if then", 21}, {"process a ; begin if 1 then skip", 28}, {"process a ; begin if 1 then begin skip end ; else", 45}, {"process a ; begin if 1 then begin skip end else skip", 48},
		{"process a ; begin if 1 then begin skip end else begin skip end else", 63}, {"process a ; begin else", 18}, {"process a ; begin while 1 then", 26}, {"process a ; begin while 1 do skip", 29}, {"process a ; begin while do", 24},
		{"process a ; begin call 1", 23}, {"process a ; begin call m ( 1 )", 25}, {"process a ; begin call m . ( 1 )", 27}, {"process a ; begin call m . e 1", 29}, {"process a ; begin call m . e ( )", 31}, {"process a ; begin call m . e ( 1 , 2 )", 33},
		{"process a ; begin call m . e ( 1 ) to 1", 38}, {"process a ; begin call m . e ( 1 ) to v , w", 40}, {"process a ; begin call m . e ( 1 ) v", 35}, {"process a ; begin call m . 7", 27}, {"process a ; begin call m . e . f", 29},
		{"monitor ;", 8}, {"monitor end ;", 8}, {"monitor m end", 10}, {"monitor m uses", 10}, {"monitor m ; begin", 12}, {"monitor m ; process", 12}, {"monitor m ; queue q ; var", 22}, {"monitor m ; var v ; var", 20}, {"monitor m ; var ;", 16}, {"monitor m ; queue q ; queue", 22},
		{"monitor m ; entry ( x )", 18}, {"monitor m ; entry e x", 20}, {"monitor m ; entry e ( )", 22}, {"monitor m ; entry e ( 1 )", 22}, {"monitor m ; entry e ( x , y )", 24}, {"monitor m ; entry e ( x ) ;", 26}, {"monitor m ; entry e ( x ) var", 26},
		{"monitor m ; entry e ( x ) begin skip end end", 41}, {"monitor m ; entry e ( x ) begin skip end ; var", 43}, {"monitor m ; end .", 16}, {"monitor m ; end ; end", 18}, {"monitor m ; entry e ( x ) begin skip end ; ;", 43}, {"monitor m ; end ; entry", 18},
		{"process a ; begin print 1 < 2 = 3", 30}, {"process a ; begin print 1 = 2 = 3 and", 30}, {"process a ; begin print ( 1", 27}, {"process a ; begin print ( 1 end", 28}, {"process a ; begin print 1 )", 26}, {"process a ; begin print + 1", 24}, {"process a ; begin print 1 and or 2", 30}, {"process a ; begin print 1 not 2", 26},
	} {
		readingGoesWrong(t, c.text, c.at)
	}
}

func TestSignsThatAreNone(t *testing.T) {
	right := "process a ; begin v := 1 end ; ."
	wrong := "process a ; begin v := end ; ."
	for _, none := range append([]string{"abcdefghi", "1234567"}, wrongBytes...) {
		for at := range len(right) {
			if right[at] == ' ' {
				readingGoesWrong(t, right[:at]+" "+none+right[at:], at+1)
			}
		}
		for at := range len(wrong) {
			if wrong[at] == ' ' {
				readingGoesWrong(t, wrong[:at]+" "+none+wrong[at:], at+1)
			}
		}
		readingGoesWrong(t, wrong+none, len(wrong))
		readingGoesWrong(t, none+" "+wrong, 0)
		readingGoesWrong(t, right+none, len(right))
		readingGoesWrong(t, none, 0)
	}
}

func TestSomethingBehindTheEnd(t *testing.T) {
	right := "process a ; begin skip end ; ."
	for _, sign := range oneOfEachSign() {
		readingGoesWrong(t, right+sign, len(right))
		readingGoesWrong(t, right+" #.\n "+sign+" ;", len(right)+5)
		readingGoesWrong(t, "."+sign, 1)
	}
	for _, blank := range between {
		readsAs(t, right+blank, smallest())
	}
}

func TestReadingAnyBytes(t *testing.T) {
	for _, text := range []string{anyBytes(1), anyBytes(1500), anyBytes(1501), anyBytes(100000), "\x00", "\xff.", ".\xff", "#\xff\n.", "process \u00e4 ;"} {
		_, signsFault := impl.SignsOf(text)
		p, fault := impl.ReadProgram(text)
		if told(p) != told(impl.Program{}) || signsFault != 0 && fault != signsFault || fault == 0 {
			t.Errorf("ReadProgram(%.40q) = %+v, %d", text, p, fault)
		}
	}
}

func TestProgramsReadAreNewMemory(t *testing.T) {
	first, _ := impl.ReadProgram(everyKind)
	for _, name := range namesOf(&first) {
		*name = "z"
	}
	for k := range first.Nodes {
		kids := first.Nodes[k].Kids
		for i := range kids[:cap(kids)] {
			kids[:cap(kids)][i] = -5
		}
	}
	readsAs(t, everyKind, everyKindProgram())
	second, _ := impl.ReadProgram(everyKind)
	for i := range second.Monitors {
		m := &second.Monitors[i]
		_, _, _ = append(m.Vars, "far"), append(m.Queues, "far"), append(m.Entries, impl.Entry{Name: "far"})
	}
	for i := range second.Processes {
		_, _ = append(second.Processes[i].Uses, "far"), append(second.Processes[i].Vars, "far")
	}
	for k := range second.Nodes {
		_ = append(second.Nodes[k].Kids, -7)
	}
	if told(second) != told(everyKindProgram()) {
		t.Errorf("two lists share memory: %+v", second)
	}
}

// same asks whether two programs are the same, either way round.
func same(t *testing.T, what string, a, b impl.Program, want bool) {
	t.Helper()
	if impl.SameProgram(a, b) != want || impl.SameProgram(b, a) != want {
		t.Errorf("SameProgram with %s = %v and %v, want %v", what, impl.SameProgram(a, b), impl.SameProgram(b, a), want)
	}
}

func TestProgramsThatAreTheSame(t *testing.T) {
	wrong := impl.Program{
		Nodes:     []impl.Node{{Kind: -1, Num: math.MinInt, Name: "\xff", More: "A b", To: "\x00", Kids: []int{7, 7, -1}}, {}},
		Monitors:  []impl.Monitor{{}, {Name: "#", Entries: []impl.Entry{{Body: -9}}}},
		Processes: []impl.Process{{Body: math.MaxInt}},
	}
	for _, p := range []impl.Program{{}, smallest(), largest(), everyKindProgram(), ofNodes(161), chain(13), wrong} {
		same(t, "itself", p, p, true)
		same(t, "its copy", p, copied(p), true)
	}
	same(t, "others", smallest(), largest(), false)
	same(t, "nothing", smallest(), impl.Program{}, false)
}

func TestEmptyListsAreTheSame(t *testing.T) {
	empty := impl.Program{Nodes: []impl.Node{}, Monitors: []impl.Monitor{}, Processes: []impl.Process{}}
	same(t, "empty lists", impl.Program{}, empty, true)
	none := impl.Program{Nodes: []impl.Node{{}}, Monitors: []impl.Monitor{{}}, Processes: []impl.Process{{}}}
	few := impl.Program{
		Nodes:     []impl.Node{{Kids: []int{}}},
		Monitors:  []impl.Monitor{{Vars: []string{}, Queues: []string{}, Entries: []impl.Entry{}}},
		Processes: []impl.Process{{Uses: []string{}, Vars: []string{}}},
	}
	same(t, "empty lists within", none, few, true)
	same(t, "empty lists and one more", none, empty, false)
}

// differs asks that the largest program, once it is changed, be another.
func differs(t *testing.T, what string, change func(p *impl.Program)) {
	t.Helper()
	p := copied(largest())
	change(&p)
	same(t, what, p, largest(), false)
}

func TestProgramsThatDifferInOneNode(t *testing.T) {
	for k := range largest().Nodes {
		differs(t, "another Kind", func(p *impl.Program) { p.Nodes[k].Kind++ })
		differs(t, "another Num", func(p *impl.Program) { p.Nodes[k].Num-- })
		differs(t, "another Name", func(p *impl.Program) { p.Nodes[k].Name += "a" })
		differs(t, "another More", func(p *impl.Program) { p.Nodes[k].More += "a" })
		differs(t, "another To", func(p *impl.Program) { p.Nodes[k].To += "a" })
		differs(t, "a kid more", func(p *impl.Program) { p.Nodes[k].Kids = append(p.Nodes[k].Kids, 0) })
		for i, kid := range largest().Nodes[k].Kids {
			differs(t, "another kid", func(p *impl.Program) { p.Nodes[k].Kids[i] = kid + 1 })
			differs(t, "a kid less", func(p *impl.Program) { p.Nodes[k].Kids = slices.Delete(p.Nodes[k].Kids, i, i+1) })
		}
		differs(t, "a node less", func(p *impl.Program) { p.Nodes = slices.Delete(p.Nodes, k, k+1) })
	}
	differs(t, "a node more", func(p *impl.Program) { p.Nodes = append(p.Nodes, impl.Node{}) })
}

func TestProgramsThatDifferInOneNameOrBody(t *testing.T) {
	p := largest()
	for i := range namesOf(&p) {
		differs(t, "a longer name", func(p *impl.Program) { *namesOf(p)[i] += "a" })
		differs(t, "another name", func(p *impl.Program) { *namesOf(p)[i] = "zz" })
	}
	for i := range bodiesOf(&p) {
		differs(t, "a Body elsewhere", func(p *impl.Program) { *bodiesOf(p)[i]++ })
		differs(t, "a Body at 0", func(p *impl.Program) { *bodiesOf(p)[i] = 0 })
	}
}

func TestProgramsThatDifferInANumber(t *testing.T) {
	for i := range 3 {
		differs(t, "a monitor less", func(p *impl.Program) { p.Monitors = slices.Delete(p.Monitors, i, i+1) })
		differs(t, "a process less", func(p *impl.Program) { p.Processes = slices.Delete(p.Processes, i+1, i+2) })
		differs(t, "a var less", func(p *impl.Program) { p.Monitors[i].Vars = p.Monitors[i].Vars[:2] })
		differs(t, "no var", func(p *impl.Program) { p.Monitors[i].Vars = nil })
		differs(t, "a queue less", func(p *impl.Program) { p.Monitors[i].Queues = p.Monitors[i].Queues[:1] })
		differs(t, "no queue", func(p *impl.Program) { p.Monitors[i].Queues = nil })
		differs(t, "an entry less", func(p *impl.Program) { p.Monitors[i].Entries = p.Monitors[i].Entries[:2] })
		differs(t, "a use less", func(p *impl.Program) { p.Processes[i].Uses = p.Processes[i].Uses[:2] })
		differs(t, "a use more", func(p *impl.Program) { p.Processes[i].Uses = append(p.Processes[i].Uses, "m") })
		differs(t, "no var of a process", func(p *impl.Program) { p.Processes[i].Vars = nil })
		differs(t, "names in another order", func(p *impl.Program) { slices.Reverse(p.Processes[i].Vars) })
		differs(t, "entries in another order", func(p *impl.Program) { slices.Reverse(p.Monitors[i].Entries) })
		differs(t, "vars for uses", func(p *impl.Program) {
			p.Processes[i].Vars, p.Processes[i].Uses = p.Processes[i].Uses, p.Processes[i].Vars
		})
	}
	differs(t, "a monitor more", func(p *impl.Program) { p.Monitors = append(p.Monitors, impl.Monitor{}) })
	differs(t, "a process more", func(p *impl.Program) { p.Processes = append(p.Processes, impl.Process{}) })
	differs(t, "monitors in another order", func(p *impl.Program) { slices.Reverse(p.Monitors) })
	differs(t, "processes in another order", func(p *impl.Program) { slices.Reverse(p.Processes) })
}

func TestSameProgramLeavesProgramsAsTheyWere(t *testing.T) {
	a, b := largest(), everyKindProgram()
	for k := range a.Nodes {
		room := append(slices.Clone(a.Nodes[k].Kids), 77)
		a.Nodes[k].Kids = room[:len(room)-1]
	}
	impl.SameProgram(a, b)
	impl.SameProgram(b, a)
	impl.SameProgram(a, copied(a))
	if told(a) != told(largest()) || told(b) != told(everyKindProgram()) {
		t.Error("a program was changed")
	}
	for _, node := range a.Nodes {
		if behind := node.Kids[:len(node.Kids)+1][len(node.Kids)]; behind != 77 {
			t.Errorf("behind the kids stands %d", behind)
		}
	}
}
