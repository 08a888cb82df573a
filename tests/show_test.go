package tests

import (
	"math"
	"slices"
	"strings"
	"testing"

	"loop.example/g00290/impl"
)

// shape is a node and its text, in which @ stands for each of its kids.
type shape struct {
	text string
	node impl.Node
}

// grown is a node that stands in a program, and the text of all of it.
type grown struct {
	text  string
	place int
}

// shaped puts a node of this shape behind the others.
func (g *grower) shaped(s shape, kids ...grown) grown {
	text, node := s.text, s.node
	node.Kids = nil
	pieces := strings.Split(text, "@")
	text = pieces[0]
	for i, kid := range kids {
		text += kid.text + pieces[i+1]
		node.Kids = append(node.Kids, kid.place)
	}
	return grown{text, g.add(node)}
}

var (
	numShape   = shape{"7", impl.Node{Kind: impl.NdNum, Num: 7}}
	nameShape  = shape{"v", impl.Node{Kind: impl.NdVar, Name: "v"}}
	notShape   = shape{"not @", impl.Node{Kind: impl.NdNot}}
	minusShape = shape{"- @", impl.Node{Kind: impl.NdNeg}}
	skipShape  = shape{"skip", impl.Node{Kind: impl.NdSkip}}
)

// calcShapes are all operations.
var calcShapes = []shape{
	{"( @ + @ )", impl.Node{Kind: impl.NdCalc, Num: impl.OpAdd}},
	{"( @ - @ )", impl.Node{Kind: impl.NdCalc, Num: impl.OpSub}},
	{"( @ * @ )", impl.Node{Kind: impl.NdCalc, Num: impl.OpMul}},
	{"( @ / @ )", impl.Node{Kind: impl.NdCalc, Num: impl.OpDiv}},
	{"( @ % @ )", impl.Node{Kind: impl.NdCalc, Num: impl.OpMod}},
	{"( @ < @ )", impl.Node{Kind: impl.NdCalc, Num: impl.OpLess}},
	{"( @ = @ )", impl.Node{Kind: impl.NdCalc, Num: impl.OpSame}},
	{"( @ and @ )", impl.Node{Kind: impl.NdCalc, Num: impl.OpAnd}},
	{"( @ or @ )", impl.Node{Kind: impl.NdCalc, Num: impl.OpOr}},
}

// valueShapes are all kinds of values.
func valueShapes() []shape {
	return append([]shape{numShape, nameShape, notShape, minusShape}, calcShapes...)
}

// statementShapes are all kinds of statements, each with what its kids are: v a value, b a block.
var statementShapes = []struct {
	shape
	sorts string
}{
	{shape{"x := @", impl.Node{Kind: impl.NdSet, Name: "x"}}, "v"},
	{shape{"if @ then @", impl.Node{Kind: impl.NdIf}}, "vb"},
	{shape{"if @ then @ else @", impl.Node{Kind: impl.NdIf}}, "vbb"},
	{shape{"while @ do @", impl.Node{Kind: impl.NdWhile}}, "vb"},
	{shape{"call m . e ( @ )", impl.Node{Kind: impl.NdCall, Name: "m", More: "e"}}, "v"},
	{shape{"call mm . ee ( @ ) to x", impl.Node{Kind: impl.NdCall, Name: "mm", More: "ee", To: "x"}}, "v"},
	{shape{"print @", impl.Node{Kind: impl.NdPrint}}, "v"},
	{shape{"read x", impl.Node{Kind: impl.NdRead, Name: "x"}}, ""},
	{shape{"delay q", impl.Node{Kind: impl.NdDelay, Name: "q"}}, ""},
	{shape{"continue q", impl.Node{Kind: impl.NdCont, Name: "q"}}, ""},
	{skipShape, ""},
}

// filled is a value of this shape, with what the call makes as its kids.
func (g *grower) filled(s shape, kid func() grown) grown {
	kids := []grown{}
	for range strings.Count(s.text, "@") {
		kids = append(kids, kid())
	}
	return g.shaped(s, kids...)
}

// blockOf is a block of these statements.
func (g *grower) blockOf(statements ...grown) grown {
	text := "begin " + strings.Repeat("@ ; ", len(statements)-1) + "@ end"
	return g.shaped(shape{text, impl.Node{Kind: impl.NdBlock}}, statements...)
}

// simple is a value, in which a name and a number stand by turns.
func (g *grower) simple(i int) grown {
	return g.shaped([]shape{nameShape, numShape}[i%2])
}

// statementOf is a statement of this shape, with blocks that the call makes.
func (g *grower) statementOf(s shape, sorts string, block func() grown) grown {
	kids := []grown{}
	for i, sort := range sorts {
		if sort == 'v' {
			kids = append(kids, g.simple(i))
		} else {
			kids = append(kids, block())
		}
	}
	return g.shaped(s, kids...)
}

// process is one more process with this block.
func (g *grower) process(block grown) {
	name := "abcdefgh"[len(g.p.Processes):][:1]
	g.p.Processes = append(g.p.Processes, impl.Process{Name: name, Body: block.place})
}

func showsValue(t *testing.T, p impl.Program, k int, want string) {
	t.Helper()
	if got := impl.ShowValue(p, k); got != want {
		t.Errorf("ShowValue at %d of %+v = %.300q, want %.300q", k, p.Nodes, got, want)
	}
}

func showsBlock(t *testing.T, p impl.Program, k int, want string) {
	t.Helper()
	if got := impl.ShowBlock(p, k); got != want {
		t.Errorf("ShowBlock at %d of %+v = %.300q, want %.300q", k, p.Nodes, got, want)
	}
}

func showsProgram(t *testing.T, p impl.Program, want string) {
	t.Helper()
	if got, ok := impl.ShowProgram(p); got != want || !ok {
		t.Errorf("ShowProgram of %+v = %.300q, %v; want %.300q, true", p, got, ok, want)
	}
}

// refusesToShow asks that a program not be shown.
func refusesToShow(t *testing.T, what string, p impl.Program) {
	t.Helper()
	if got, ok := impl.ShowProgram(p); got != "" || ok {
		t.Errorf("ShowProgram with %s = %.300q, %v; want nothing, false", what, got, ok)
	}
}

// comesBack asks that a program be shown by this text, and read again from it, and be the same.
func comesBack(t *testing.T, p impl.Program, text string) {
	t.Helper()
	showsProgram(t, p, text)
	read, fault := impl.ReadProgram(text)
	if fault != 0 || !impl.SameProgram(read, p) || told(read) != told(p) {
		t.Errorf("ReadProgram(%.300q) = %+v, %d; want %+v, 0", text, read, fault, p)
	}
	showsProgram(t, read, text)
}

// valueComesBack asks that a value, the last of the nodes, be shown by its text, and be read again in a program.
func valueComesBack(t *testing.T, g grower, value grown) {
	t.Helper()
	showsValue(t, g.p, value.place, value.text)
	block := g.blockOf(g.shaped(shape{"print @", impl.Node{Kind: impl.NdPrint}}, value))
	g.process(block)
	showsBlock(t, g.p, block.place, "begin print "+value.text+" end")
	comesBack(t, g.p, "process a ; begin print "+value.text+" end ; .")
}

func TestShowsNumbersAndNames(t *testing.T) {
	for _, num := range []int{0, 1, 7, 10, 101, 1000, 99999, 100000, 999998, 999999} {
		g := grower{}
		valueComesBack(t, g, g.shaped(shape{impl.Decimal(num), impl.Node{Kind: impl.NdNum, Num: num}}))
	}
	for _, name := range []string{"a", "z", "v", "not"[:2], "ands", "result", "abcdefgh", "zzzzzzzz"} {
		g := grower{}
		valueComesBack(t, g, g.shaped(shape{name, impl.Node{Kind: impl.NdVar, Name: name}}))
	}
}

// The greatest number of a tree is a figure longer than a text may have it.
func TestShowsTheGreatestNumber(t *testing.T) {
	g := grower{}
	value := g.shaped(shape{"1000000", impl.Node{Kind: impl.NdNum, Num: impl.MaxVal}})
	showsValue(t, g.p, value.place, "1000000")
	g.process(g.blockOf(g.shaped(shape{"print @", impl.Node{Kind: impl.NdPrint}}, value)))
	showsProgram(t, g.p, "process a ; begin print 1000000 end ; .")
}

func TestShowsEachValue(t *testing.T) {
	for _, s := range valueShapes() {
		g, i := grower{}, 0
		valueComesBack(t, g, g.filled(s, func() grown { i++; return g.simple(i) }))
	}
}

func TestShowsEachValueWithinEach(t *testing.T) {
	for _, outer := range valueShapes() {
		for _, left := range valueShapes() {
			for _, right := range valueShapes() {
				g, i := grower{}, 0
				value := g.filled(outer, func() grown {
					i++
					return g.filled([]shape{left, right}[i%2], func() grown { i += 3; return g.simple(i) })
				})
				valueComesBack(t, g, value)
			}
		}
	}
}

func TestShowsThreeValuesWithinEachOther(t *testing.T) {
	for _, outer := range valueShapes() {
		for _, middle := range valueShapes() {
			for _, inner := range valueShapes() {
				g, i := grower{}, 0
				simple := func() grown { i++; return g.simple(i) }
				value := g.filled(outer, func() grown {
					return g.filled(middle, func() grown { return g.filled(inner, simple) })
				})
				valueComesBack(t, g, value)
			}
		}
	}
}

func TestShowsSomeValues(t *testing.T) {
	for value, want := range map[string]string{
		"1 + 2 * 3":              "( 1 + ( 2 * 3 ) )",
		"( 1 + 2 ) * 3":          "( ( 1 + 2 ) * 3 )",
		"1-2-3":                  "( ( 1 - 2 ) - 3 )",
		"1-(2-3)":                "( 1 - ( 2 - 3 ) )",
		"a and b or c":           "( ( a and b ) or c )",
		"a < b = 0":              "",
		"( a < b ) = 0":          "( ( a < b ) = 0 )",
		"a+b<c*d and not e":      "( ( ( a + b ) < ( c * d ) ) and not e )",
		"not not a":              "not not a",
		"not a + b":              "( not a + b )",
		"not ( a + b )":          "not ( a + b )",
		"- - 1":                  "- - 1",
		"- 1 - - 2":              "( - 1 - - 2 )",
		"-(1-2)":                 "- ( 1 - 2 )",
		"((((007))))":            "7",
		"not ( - ( not ( a ) ))": "not - not a",
	} {
		p, fault := impl.ReadProgram(inBlock("print " + value))
		if (fault != 0) != (want == "") {
			t.Errorf("%q: %d", value, fault)
		}
		showsValue(t, p, len(p.Nodes)-3, want)
	}
}

func TestShowsEachStatement(t *testing.T) {
	for _, s := range statementShapes {
		g := grower{}
		block := g.blockOf(g.statementOf(s.shape, s.sorts, func() grown { return g.blockOf(g.shaped(skipShape)) }))
		showsBlock(t, g.p, block.place, block.text)
		g.process(block)
		comesBack(t, g.p, "process a ; "+block.text+" ; .")
	}
}

func TestShowsEachTwoStatements(t *testing.T) {
	for _, first := range statementShapes {
		for _, second := range statementShapes {
			g := grower{}
			small := func() grown { return g.blockOf(g.shaped(skipShape)) }
			one := g.statementOf(first.shape, first.sorts, small)
			block := g.blockOf(one, g.statementOf(second.shape, second.sorts, small))
			showsBlock(t, g.p, block.place, block.text)
			g.process(block)
			comesBack(t, g.p, "process a ; "+block.text+" ; .")
		}
	}
}

func TestShowsBlocksWithinBlocks(t *testing.T) {
	for _, outer := range statementShapes {
		for _, inner := range statementShapes {
			g := grower{}
			within := func() grown {
				return g.blockOf(g.statementOf(inner.shape, inner.sorts, func() grown { return g.blockOf(g.shaped(skipShape), g.shaped(skipShape)) }))
			}
			block := g.blockOf(g.statementOf(outer.shape, outer.sorts, within))
			showsBlock(t, g.p, block.place, block.text)
			g.process(block)
			comesBack(t, g.p, "process a ; "+block.text+" ; .")
		}
	}
}

func TestShowsEachValueInEachStatement(t *testing.T) {
	for _, s := range statementShapes {
		if !strings.Contains(s.sorts, "v") {
			continue
		}
		for _, v := range valueShapes() {
			g, i := grower{}, 0
			kids := []grown{g.filled(v, func() grown { i++; return g.simple(i) })}
			for range len(s.sorts) - 1 {
				kids = append(kids, g.blockOf(g.shaped(skipShape)))
			}
			block := g.blockOf(g.shaped(s.shape, kids...))
			showsBlock(t, g.p, block.place, block.text)
			g.process(block)
			comesBack(t, g.p, "process a ; "+block.text+" ; .")
		}
	}
}

func TestShowsBlocksOfEverySize(t *testing.T) {
	for size := 1; size <= 12; size++ {
		g := grower{}
		statements := []grown{}
		for i := range size {
			name := strings.Repeat("r", i%8+1)
			statements = append(statements, g.shaped(shape{"read " + name, impl.Node{Kind: impl.NdRead, Name: name}}))
		}
		block := g.blockOf(statements...)
		if strings.Count(block.text, " ; ") != size-1 {
			t.Fatal(block.text)
		}
		showsBlock(t, g.p, block.place, block.text)
		g.process(block)
		comesBack(t, g.p, "process a ; "+block.text+" ; .")
	}
}

func TestShowsTheBlockThatIsAskedFor(t *testing.T) {
	p, _ := impl.ReadProgram(everyKind)
	for k, want := range map[int]string{
		3:  "begin u := x ; delay q end",
		5:  "begin continue q end",
		7:  "begin skip end",
		15: "begin r := - r end",
		19: "begin r := not r end",
		42: "begin r := ( r - 1 ) ; print ( ( r * 3 ) / 4 ) end",
		52: "begin read r ; if ( r < 10 ) then begin r := - r end else begin r := not r end ; if ( ( r = 0 ) or 1 ) then begin skip end ; while ( r and 2 ) do begin r := ( r - 1 ) ; print ( ( r * 3 ) / 4 ) end ; call m . put ( ( r % 5 ) ) to r ; call m . get ( ( r + 6 ) ) end",
		55: "begin print 7 end",
	} {
		showsBlock(t, p, k, want)
	}
	for k, want := range map[int]string{0: "x", 10: "10", 11: "( r < 10 )", 13: "- r", 17: "not r", 22: "0", 25: "( ( r = 0 ) or 1 )", 40: "( ( r * 3 ) / 4 )", 53: "7"} {
		showsValue(t, p, k, want)
	}
}

const everyKindShown = "monitor m ; var u , v ; queue q ; entry put ( x ) begin u := x ; delay q end ; entry get ( y ) begin continue q end ; end ; " +
	"monitor last ; entry e ( p ) begin skip end ; end ; " +
	"process a uses m , last ; var r ; begin read r ; if ( r < 10 ) then begin r := - r end else begin r := not r end ; if ( ( r = 0 ) or 1 ) then begin skip end ; " +
	"while ( r and 2 ) do begin r := ( r - 1 ) ; print ( ( r * 3 ) / 4 ) end ; call m . put ( ( r % 5 ) ) to r ; call m . get ( ( r + 6 ) ) end ; " +
	"process b ; begin print 7 end ; ."

func TestShowsPrograms(t *testing.T) {
	comesBack(t, smallest(), "process a ; begin skip end ; .")
	comesBack(t, everyKindProgram(), everyKindShown)
}

func TestShowsListsOfNames(t *testing.T) {
	lists := []struct {
		names []string
		text  string
	}{{nil, ""}, {[]string{}, ""}, {[]string{"x"}, "x"}, {[]string{"y", "x"}, "y , x"}, {[]string{"longname", "x", "x"}, "longname , x , x"}}
	put := func(word, text, end string) string {
		if text == "" {
			return ""
		}
		return word + " " + text + " " + end
	}
	for _, first := range lists {
		for _, second := range lists {
			p := smallest()
			p.Processes[0].Uses, p.Processes[0].Vars = first.names, second.names
			comesBack(t, p, "process a "+put("uses", first.text, "")+"; "+put("var", second.text, "; ")+"begin skip end ; .")
			if len(second.names) > 2 {
				continue
			}
			g := grower{}
			g.p.Monitors = []impl.Monitor{{Name: "m", Vars: first.names, Queues: second.names, Entries: []impl.Entry{{Name: "e", Param: "p", Body: g.block(2)}}}}
			g.p.Processes = []impl.Process{{Name: "a", Body: g.block(2)}}
			comesBack(t, g.p, "monitor m ; "+put("var", first.text, "; ")+put("queue", second.text, "; ")+"entry e ( p ) begin skip end ; end ; process a ; begin skip end ; .")
		}
	}
}

func TestShowsAnyNumberOfMonitorsAndProcesses(t *testing.T) {
	for monitors := range 4 {
		for entries := 1; entries < 4; entries++ {
			for processes := 1; processes < 5; processes++ {
				g, want := grower{}, ""
				for i := range monitors {
					m := impl.Monitor{Name: "mno"[i : i+1]}
					want += "monitor " + m.Name + " ; "
					for j := range entries {
						m.Entries = append(m.Entries, impl.Entry{Name: "efg"[j : j+1], Param: "pqr"[i : i+1], Body: g.block(2)})
						want += "entry " + m.Entries[j].Name + " ( " + m.Entries[j].Param + " ) begin skip end ; "
					}
					g.p.Monitors = append(g.p.Monitors, m)
					want += "end ; "
				}
				for range processes {
					g.process(grown{place: g.block(3)})
					want += "process " + g.p.Processes[len(g.p.Processes)-1].Name + " ; begin skip ; skip end ; "
				}
				comesBack(t, g.p, want+".")
			}
		}
	}
}

// Whatever is read is shown, as far as there is room, and read again.
func TestShowsWhatWasRead(t *testing.T) {
	programs := []impl.Program{largest()}
	for count := 8; count <= impl.MaxNodes; count++ {
		programs = append(programs, ofNodes(count))
	}
	for deep := 2; deep <= impl.MaxDeep; deep++ {
		programs = append(programs, deepProgram(deep))
	}
	for whiles := range 5 {
		programs = append(programs, ended(deepBlocks(whiles)))
	}
	for _, p := range programs {
		read, fault := impl.ReadProgram(tight(signsIn(p)))
		if fault != 0 {
			t.Fatalf("%+v is not read: %d", p, fault)
		}
		if text := strings.Join(signsIn(p), " "); len(text) <= impl.MaxSource {
			comesBack(t, read, text)
		} else {
			refusesToShow(t, "a long text", read)
		}
	}
}

func TestShowsNodesInAnyOrder(t *testing.T) {
	p := deepBlocks(4)
	text := "process a ; " + strings.Repeat("begin while 0 do ", 4) + "begin skip end" + strings.Repeat(" end", 4) + " ; ."
	showsProgram(t, p, text)
	if impl.SameProgram(p, ended(p)) {
		t.Fatal("its nodes are in the order in which they end")
	}
	comesBack(t, ended(p), text)
}

// ofCalls is a program of processes with a block of calls each; the first of all these calls have a to, and the first a not.
func ofCalls(processes, calls, withTo, withNot int) impl.Program {
	g, i := grower{}, 0
	for range processes {
		kids := []int{}
		for range calls {
			call := impl.Node{Kind: impl.NdCall, Name: "m", More: "e"}
			if i < withTo {
				call.To = "x"
			}
			value := g.add(impl.Node{Kind: impl.NdVar, Name: "v"})
			if i < withNot {
				value = g.add(impl.Node{Kind: impl.NdNot, Kids: []int{value}})
			}
			call.Kids = []int{value}
			kids = append(kids, g.add(call))
			i++
		}
		g.process(grown{place: g.add(impl.Node{Kind: impl.NdBlock, Kids: kids})})
	}
	return g.p
}

// ofLength is a program whose text has so many bytes, 900 or more.
func ofLength(size int) impl.Program {
	p := ofCalls(3, 12, 36, 0)
	lack := size - len(strings.Join(signsIn(p), " "))
	for _, name := range namesOf(&p) {
		more := min(lack, 7)
		*name += strings.Repeat("n", more)
		lack -= more
	}
	return p
}

func TestLengthOfWhatIsShown(t *testing.T) {
	for size := 1400; size <= impl.MaxSource+100; size++ {
		p := ofLength(size)
		text := strings.Join(signsIn(p), " ")
		if len(text) != size || !impl.ProgramOk(p) {
			t.Fatalf("%d bytes, want %d", len(text), size)
		}
		if size <= 1500 {
			comesBack(t, p, text)
		} else {
			refusesToShow(t, impl.Decimal(size)+" bytes", p)
		}
	}
}

// Blocks are shown however long they are.
func TestBlocksMayBeLongerThanSources(t *testing.T) {
	p := ofLength(1800)
	for _, process := range p.Processes {
		w := penned{p: p}
		w.block(process.Body)
		showsBlock(t, p, process.Body, strings.Join(w.signs, " "))
	}
	g := grower{}
	inner := g.add(plainNode(impl.NdBlock, ofNames(&g, 12)...))
	loops := []int{}
	for range 12 {
		loops = append(loops, g.add(plainNode(impl.NdWhile, g.value(1), inner)))
	}
	within := "while 0 do begin " + strings.Repeat("read longname ; ", 11) + "read longname end"
	showsBlock(t, g.p, g.add(plainNode(impl.NdBlock, loops...)), "begin "+strings.Repeat(within+" ; ", 11)+within+" end")
}

// ofNames are so many statements, each with a long name.
func ofNames(g *grower, count int) []int {
	kids := []int{}
	for range count {
		kids = append(kids, g.add(impl.Node{Kind: impl.NdRead, Name: "longname"}))
	}
	return kids
}

// ofSigns is a program of so many signs, 405 to 502.
func ofSigns(count int) impl.Program {
	more := count - len(signsIn(ofCalls(4, 12, 0, 0)))
	return ofCalls(4, 12, more/2, more%2)
}

func TestNumberOfSignsShown(t *testing.T) {
	for count := 405; count <= 502; count++ {
		p := ofSigns(count)
		signs := signsIn(p)
		text := strings.Join(signs, " ")
		if len(signs) != count || !impl.ProgramOk(p) {
			t.Fatalf("%d signs, want %d", len(signs), count)
		}
		if count <= 500 {
			comesBack(t, p, text)
			continue
		}
		showsProgram(t, p, text)
		readingGoesWrong(t, text, len(strings.Join(signs[:500], " "))+1)
	}
}

func TestHowDeepIsShown(t *testing.T) {
	for _, kind := range []struct {
		node impl.Node
		sign string
	}{{impl.Node{Kind: impl.NdNot}, "not "}, {impl.Node{Kind: impl.NdNeg}, "- "}} {
		p := chain(13)
		for k := 1; k < 13; k++ {
			p.Nodes[k].Kind = kind.node.Kind
		}
		for k := range 10 {
			showsValue(t, p, k, strings.Repeat(kind.sign, k)+"0")
		}
		for k := 10; k < 13; k++ {
			showsValue(t, p, k, "")
		}
	}
	for whiles := range 7 {
		p := deepBlocks(whiles)
		block := strings.Repeat("begin while 0 do ", whiles) + "begin skip end" + strings.Repeat(" end", whiles)
		if whiles > 4 {
			block = ""
		}
		showsBlock(t, p, p.Processes[0].Body, block)
	}
	for deep := 2; deep < 14; deep++ {
		p := deepProgram(deep)
		block := "begin print " + strings.Repeat("not ", max(deep-3, 0)) + "0 end"
		if deep == 2 {
			block = "begin skip end"
		}
		if deep <= 10 {
			showsBlock(t, p, p.Processes[0].Body, block)
			comesBack(t, p, "process a ; "+block+" ; .")
		} else {
			showsBlock(t, p, p.Processes[0].Body, "")
			refusesToShow(t, "a tree too deep", p)
		}
	}
}

// What stands behind a node of which nothing deep is told has none, either.
func TestNodesBehindOneThatIsTooDeep(t *testing.T) {
	p := chain(11)
	p.Nodes = append(p.Nodes, impl.Node{Kind: impl.NdNum, Num: 5}, impl.Node{Kind: impl.NdSkip}, impl.Node{Kind: impl.NdBlock, Kids: []int{12}})
	showsValue(t, p, 9, strings.Repeat("not ", 9)+"0")
	showsValue(t, p, 11, "")
	showsBlock(t, p, 13, "")
}

func TestPlacesThatAreNotShown(t *testing.T) {
	for _, p := range []impl.Program{{}, smallest(), everyKindProgram()} {
		for _, k := range []int{math.MinInt, -100, -2, -1, len(p.Nodes), len(p.Nodes) + 1, len(p.Nodes) + 100, math.MaxInt} {
			showsValue(t, p, k, "")
			showsBlock(t, p, k, "")
		}
	}
}

func TestValuesAreNoBlocks(t *testing.T) {
	for _, p := range []impl.Program{everyKindProgram(), largest()} {
		for k, node := range p.Nodes {
			w := penned{p: p}
			w.value(k)
			showsValue(t, p, k, strings.Join(w.signs, " "))
			if node.Kind < impl.NdSet && len(w.signs) == 0 {
				t.Errorf("no value at %d", k)
			}
			block := ""
			if node.Kind == impl.NdBlock {
				w := penned{p: p}
				w.block(k)
				block = strings.Join(w.signs, " ")
			}
			showsBlock(t, p, k, block)
		}
	}
	for _, kind := range notKinds {
		p := impl.Program{Nodes: []impl.Node{{Kind: kind, Num: 1, Name: "x"}, {Kind: impl.NdNum}, {Kind: kind, Kids: []int{1}}}}
		for k := range 3 {
			showsBlock(t, p, k, "")
		}
		showsValue(t, p, 0, "")
		showsValue(t, p, 2, "")
	}
}

func TestKidsThatAreNotAheadAreNotShown(t *testing.T) {
	for _, wrong := range []int{math.MinInt, -1, 4, 5, 6, 7, math.MaxInt} {
		for _, s := range append(valueShapes(), shape{"begin @ ; @ end", impl.Node{Kind: impl.NdBlock}}) {
			for i := range strings.Count(s.text, "@") {
				node := s.node
				node.Kids = []int{0, 1}[:strings.Count(s.text, "@")]
				if node.Kind == impl.NdBlock {
					node.Kids = []int{2, 3}
				}
				node.Kids = slices.Clone(node.Kids)
				node.Kids[i] = wrong
				p := impl.Program{Nodes: []impl.Node{{Kind: impl.NdNum}, {Kind: impl.NdNum}, {Kind: impl.NdSkip}, {Kind: impl.NdSkip}, node, {Kind: impl.NdNum}, {Kind: impl.NdBlock, Kids: []int{2}}}}
				showsValue(t, p, 0, "0")
				for k := 4; k < 7; k++ {
					showsValue(t, p, k, "")
					showsBlock(t, p, k, "")
				}
			}
		}
	}
}

func TestKidsThatLeadRound(t *testing.T) {
	for _, kind := range []int{impl.NdNot, impl.NdNeg, impl.NdCalc, impl.NdBlock, impl.NdIf, impl.NdWhile} {
		for _, kids := range [][][]int{{{0}}, {{0, 0}}, {{1}, {0}}, {{1, 1}, {0, 0}}, {nil, {2, 2}, {1, 1}}} {
			p := impl.Program{}
			for _, list := range kids {
				p.Nodes = append(p.Nodes, impl.Node{Kind: kind, Num: impl.OpAdd, Kids: list})
			}
			last := len(p.Nodes) - 1
			showsValue(t, p, last, "")
			showsBlock(t, p, last, "")
			p.Processes = []impl.Process{{Name: "a", Body: last}}
			refusesToShow(t, "kids that lead round", p)
		}
	}
}

func TestProgramsThatAreNotRightAreNotShown(t *testing.T) {
	refusesToShow(t, "nothing", impl.Program{})
	refusesToShow(t, "too many nodes", ofNodes(161))
	refusesToShow(t, "a tree too deep", deepBlocks(5))
	refuses := func(what string, change func(p *impl.Program)) {
		t.Helper()
		p := copied(everyKindProgram())
		change(&p)
		refusesToShow(t, what, p)
	}
	p := everyKindProgram()
	for i := range namesOf(&p) {
		for _, wrong := range notNames {
			refuses("the name "+wrong, func(p *impl.Program) { *namesOf(p)[i] = wrong })
		}
	}
	for i := range bodiesOf(&p) {
		for _, k := range []int{-1, 0, 1, len(p.Nodes), math.MinInt, math.MaxInt} {
			refuses("a body elsewhere", func(p *impl.Program) { *bodiesOf(p)[i] = k })
		}
	}
	for k := range p.Nodes {
		refuses("no such kind", func(p *impl.Program) { p.Nodes[k].Kind = 9 })
		refuses("a number below 0", func(p *impl.Program) { p.Nodes[k].Num = -1 })
		refuses("a kid more", func(p *impl.Program) { p.Nodes[k].Kids = append(p.Nodes[k].Kids, 0) })
		refuses("a node less", func(p *impl.Program) { p.Nodes = slices.Delete(p.Nodes, k, k+1) })
	}
	refuses("no process", func(p *impl.Program) { p.Processes = nil })
	refuses("too many processes", func(p *impl.Program) {
		p.Processes = append(p.Processes, p.Processes[0], p.Processes[0], p.Processes[0])
	})
	refuses("a monitor without entries", func(p *impl.Program) { p.Monitors[0].Entries = nil })
	refuses("too many queues", func(p *impl.Program) { p.Monitors[0].Queues = names(3) })
	refuses("too many vars", func(p *impl.Program) { p.Processes[0].Vars = names(4) })
}

// What a chapter doesn't ask of a node isn't asked here: its number and its names are shown as they stand.
func TestShowsNodesThatAreNotRight(t *testing.T) {
	for _, num := range []int{-1, -5, impl.MaxVal + 1, math.MaxInt, math.MinInt} {
		p := impl.Program{Nodes: []impl.Node{{Kind: impl.NdNum, Num: num, Name: "x"}, {Kind: impl.NdNeg, Kids: []int{0}}}}
		showsValue(t, p, 0, impl.Decimal(num))
		showsValue(t, p, 1, "- "+impl.Decimal(num))
	}
	for _, name := range notNames {
		p := impl.Program{Nodes: []impl.Node{{Kind: impl.NdVar, Name: name, Num: 3}, {Kind: impl.NdSet, Name: name, Kids: []int{0}}, {Kind: impl.NdBlock, Kids: []int{1}}}}
		showsValue(t, p, 0, name)
		showsBlock(t, p, 2, "begin "+name+" := "+name+" end")
	}
	p := impl.Program{Nodes: []impl.Node{{Kind: impl.NdNum, Num: 1}, {Kind: impl.NdCalc, Num: impl.OpSub, Kids: []int{0, 0}}, {Kind: impl.NdPrint, Kids: []int{1}}, {Kind: impl.NdBlock, Kids: []int{2, 2}}, {Kind: impl.NdBlock}}}
	showsValue(t, p, 1, "( 1 - 1 )")
	showsBlock(t, p, 3, "begin print ( 1 - 1 ) ; print ( 1 - 1 ) end")
	showsBlock(t, p, 4, "begin end")
}

// Where something is missing, so that a text can't be as the chapter says, there is none.
func TestNodesThatCannotBeShown(t *testing.T) {
	for _, op := range notOperations {
		p := impl.Program{Nodes: []impl.Node{{Kind: impl.NdNum}, {Kind: impl.NdNum}, {Kind: impl.NdCalc, Num: op, Kids: []int{0, 1}}, {Kind: impl.NdNot, Kids: []int{2}}, {Kind: impl.NdPrint, Kids: []int{3}}, {Kind: impl.NdSkip}, {Kind: impl.NdBlock, Kids: []int{5, 4}}}}
		showsValue(t, p, 2, "")
		showsValue(t, p, 3, "")
		showsBlock(t, p, 6, "")
	}
	for _, k := range nodeKinds {
		for size := range 5 {
			for _, sorts := range everySort(size) {
				s := newShelf()
				place := len(s.p.Nodes)
				s.p.Nodes = append(s.p.Nodes, plainNode(k.kind, s.kids(sorts)...), plainNode(impl.NdBlock, place))
				isShown := strings.HasPrefix(sorts, someKids(k.kind)) || k.kind == impl.NdIf && sorts == "vb"
				if k.kind == impl.NdBlock {
					isShown = strings.Trim(sorts, "s") == ""
				}
				if got := impl.ShowValue(s.p, place) != ""; got != (isShown && k.as == 'v') {
					t.Errorf("ShowValue of %+v: %v", s.p.Nodes[place], got)
				}
				if got := impl.ShowBlock(s.p, place) != ""; got != (isShown && k.as == 'b') {
					t.Errorf("ShowBlock of %+v: %v", s.p.Nodes[place], got)
				}
				if got := impl.ShowBlock(s.p, place+1) != ""; got != (isShown && k.as == 's') {
					t.Errorf("ShowBlock with %+v: %v", s.p.Nodes[place], got)
				}
			}
		}
	}
}

// longestBlock is the block with the longest text of all that are made of right nodes; few nodes do, since many may have the same kids.
func longestBlock() impl.Program {
	g := grower{}
	values := [][2]int{}
	for deep := range 8 {
		pair := [2]int{}
		for i := range pair {
			if deep == 0 {
				pair[i] = g.add(impl.Node{Kind: impl.NdVar, Name: "longname"})
			} else {
				pair[i] = g.add(impl.Node{Kind: impl.NdCalc, Num: impl.OpAnd, Kids: []int{values[deep-1][0], values[deep-1][1]}})
			}
		}
		values = append(values, pair)
	}
	statements := []int{}
	for range 12 {
		statements = append(statements, g.add(impl.Node{Kind: impl.NdCont, Name: "longname"}))
	}
	for deep := 2; deep < 10; deep += 2 {
		blocks := []int{g.add(plainNode(impl.NdBlock, statements...)), g.add(plainNode(impl.NdBlock, statements...))}
		statements = nil
		for range 12 {
			statements = append(statements, g.add(plainNode(impl.NdIf, values[deep-1][0], blocks[0], blocks[1])))
		}
	}
	g.add(plainNode(impl.NdBlock, statements...))
	return g.p
}

func TestTheLongestBlockOfRightNodes(t *testing.T) {
	p := longestBlock()
	last := len(p.Nodes) - 1
	for k := range p.Nodes {
		if !impl.NodeOk(p, k) {
			t.Fatalf("not right: %+v", p.Nodes[k])
		}
	}
	text := impl.ShowBlock(p, last)
	if deep := impl.DeepOf(p, last); deep != 10 || len(text) != 90370555 {
		t.Fatalf("%d deep, %d bytes", deep, len(text))
	}
	if statements := 12 * 24 * 24 * 24 * 24; strings.Count(text, "continue longname") != statements || !strings.HasPrefix(text, "begin if ( ( ( (") || !strings.HasSuffix(text, " end end end end end") {
		t.Errorf("it isn't the longest: %.300q", text)
	}
}

// A text that no memory could hold isn't told, but neither is it written on and on.
func TestTreesWithoutAnEnd(t *testing.T) {
	g := grower{}
	kids := slices.Repeat([]int{g.add(plainNode(impl.NdSkip))}, 10000)
	for range 4 {
		block := g.add(plainNode(impl.NdBlock, kids...))
		kids = slices.Repeat([]int{g.add(plainNode(impl.NdIf, g.value(1), block, block))}, 10000)
	}
	block := g.add(plainNode(impl.NdBlock, kids...))
	if got := impl.ShowBlock(g.p, block); got != "" {
		t.Errorf("%d bytes", len(got))
	}
	long := grower{}
	value := long.add(impl.Node{Kind: impl.NdVar, Name: strings.Repeat("long", 1000000)})
	for range 9 {
		value = long.add(plainNode(impl.NdCalc, value, value))
	}
	if got := impl.ShowValue(long.p, value); got != "" {
		t.Errorf("%d bytes", len(got))
	}
}

func TestShowingLeavesProgramsAsTheyWere(t *testing.T) {
	for _, fresh := range []func() impl.Program{everyKindProgram, largest, func() impl.Program { return chain(13) }} {
		p := fresh()
		for k := range p.Nodes {
			room := append(slices.Clone(p.Nodes[k].Kids), 77)
			p.Nodes[k].Kids = room[:len(room)-1]
		}
		first, ok := impl.ShowProgram(p)
		for k := -1; k <= len(p.Nodes); k++ {
			impl.ShowValue(p, k)
			impl.ShowBlock(p, k)
		}
		if again, okAgain := impl.ShowProgram(p); again != first || okAgain != ok || told(p) != told(fresh()) {
			t.Error("a program was changed")
		}
		for _, node := range p.Nodes {
			if behind := node.Kids[:len(node.Kids)+1][len(node.Kids)]; behind != 77 {
				t.Errorf("behind the kids stands %d", behind)
			}
		}
	}
}
