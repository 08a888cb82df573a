package tests

import (
	"math"
	"slices"
	"strings"
	"testing"

	"loop.example/g00290/impl"
)

// visitor is a process of a court: what it uses, and its statements.
type visitor struct{ uses, does string }

// court is a text with three monitors, m, n and o, that have an entry e each, and with these processes, a to d.
func court(visitors ...visitor) string {
	text := strings.Builder{}
	for _, name := range []string{"m", "n", "o"} {
		text.WriteString("monitor " + name + " ; entry e ( x ) begin skip end ; end ; ")
	}
	for i, v := range visitors {
		text.WriteString("process " + "abcd"[i:i+1])
		if v.uses != "" {
			text.WriteString(" uses " + v.uses)
		}
		text.WriteString(" ; begin " + v.does + " end ; ")
	}
	return text.String() + "."
}

// calling is statements that call these monitors, in this order.
func calling(monitors ...string) string {
	statements := []string{}
	for _, name := range monitors {
		statements = append(statements, "call "+name+" . e ( 1 )")
	}
	if len(statements) == 0 {
		return "skip"
	}
	return strings.Join(statements, " ; ")
}

func usesIs(t *testing.T, p impl.Program, process, m int, want bool) {
	t.Helper()
	if got := impl.Uses(p, process, m); got != want {
		t.Errorf("Uses(%.2000s, %d, %d) = %v, want %v", told(p), process, m, got, want)
	}
}

func usersAre(t *testing.T, p impl.Program, m int, want ...int) {
	t.Helper()
	if got := impl.UsersOf(p, m); !slices.Equal(got, want) {
		t.Errorf("UsersOf(%.2000s, %d) = %v, want %v", told(p), m, got, want)
	}
}

func callsAre(t *testing.T, p impl.Program, process int, want ...int) {
	t.Helper()
	if got := impl.CallsOf(p, process); !slices.Equal(got, want) {
		t.Errorf("CallsOf(%.2000s, %d) = %v, want %v", told(p), process, got, want)
	}
}

func grantedIs(t *testing.T, p impl.Program, want bool) {
	t.Helper()
	if got := impl.Granted(p); got != want {
		t.Errorf("Granted(%.2000s) = %v, want %v", told(p), got, want)
	}
}

func sharedIs(t *testing.T, p impl.Program, m int, want bool) {
	t.Helper()
	if got := impl.Shared(p, m); got != want {
		t.Errorf("Shared(%.2000s, %d) = %v, want %v", told(p), m, got, want)
	}
}

// placesBeyond are places that are none in a list of this size.
func placesBeyond(size int) []int {
	return []int{math.MinInt, -64, -size - 1, -2, -1, size, size + 1, size + 64, size + 256, math.MaxInt}
}

func TestUsesOneOfSeveral(t *testing.T) {
	p := readFrom(t, court(visitor{"n", "skip"}, visitor{"o , m", "skip"}, visitor{"", "skip"}, visitor{"m , n , o", "skip"}))
	for process, want := range [][]bool{{false, true, false}, {true, false, true}, {false, false, false}, {true, true, true}} {
		for m := range want {
			usesIs(t, p, process, m, want[m])
		}
	}
}

func TestUsersAscend(t *testing.T) {
	p := readFrom(t, court(visitor{"n", "skip"}, visitor{"o , n", "skip"}, visitor{"", "skip"}, visitor{"n", "skip"}))
	usersAre(t, p, 0)
	usersAre(t, p, 1, 0, 1, 3)
	usersAre(t, p, 2, 1)
	p = readFrom(t, court(visitor{"o , n , m", "skip"}, visitor{"n , m , o", "skip"}, visitor{"o", "skip"}, visitor{"o , m", "skip"}))
	usersAre(t, p, 0, 0, 1, 3)
	usersAre(t, p, 1, 0, 1)
	usersAre(t, p, 2, 0, 1, 2, 3)
}

func TestCallsAscendEachOnce(t *testing.T) {
	const all = "m , n , o"
	for does, want := range map[string][]int{
		"skip":                                  {},
		calling("m"):                            {0},
		calling("o"):                            {2},
		calling("m", "n"):                       {0, 1},
		calling("n", "m"):                       {0, 1},
		calling("o", "m"):                       {0, 2},
		calling("o", "n", "m"):                  {0, 1, 2},
		calling("n", "o", "m"):                  {0, 1, 2},
		calling("n", "n"):                       {1},
		calling("o", "m", "o", "m", "o"):        {0, 2},
		"print 1 ; " + calling("n") + " ; skip": {1},
		"while 0 do begin " + calling("o") + " end":                                                                   {2},
		"if 0 then begin " + calling("n") + " end":                                                                    {1},
		"if 1 then begin skip end else begin " + calling("o") + " end":                                                {2},
		"if 1 then begin " + calling("o") + " end else begin " + calling("m") + " end":                                {0, 2},
		"while 0 do begin if 1 then begin skip ; while 0 do begin " + calling("n") + " end end end ; " + calling("m"): {0, 1},
		"while 1 do begin " + calling("n") + " end ; " + calling("n"):                                                 {1},
	} {
		p := readFrom(t, court(visitor{all, "skip"}, visitor{all, does}, visitor{all, "skip"}))
		callsAre(t, p, 0)
		callsAre(t, p, 1, want...)
		callsAre(t, p, 2)
		grantedIs(t, p, true)
	}
}

// What is called counts by the monitor, whichever entry it is, and whatever it is called with.
func TestCallsOfEachEntry(t *testing.T) {
	p := readFrom(t, inProcess("call m . f ( c + d ) to c ; call m . e ( 1 ) ; call m . f ( 2 )"))
	callsAre(t, p, 0, 0)
	callsAre(t, p, 1, 1)
	grantedIs(t, p, true)
	sharedIs(t, p, 0, false)
	sharedIs(t, p, 1, false)
}

// A name counts where monitors are named: not as one of a process, an entry, or a var.
func TestCallsAreNotOtherNames(t *testing.T) {
	p := readFrom(t, "monitor e ; var a ; entry m ( x ) begin a := x end ; end ; monitor m ; var e ; entry e ( x ) begin e := x end ; end ; monitor a ; entry e ( x ) begin skip end ; end ; "+
		"process a uses m ; var e , a ; begin call m . e ( e ) to a end ; process e uses e ; var m ; begin call e . m ( m ) ; read m end ; .")
	usersAre(t, p, 0, 1)
	usersAre(t, p, 1, 0)
	usersAre(t, p, 2)
	callsAre(t, p, 0, 1)
	callsAre(t, p, 1, 0)
	grantedIs(t, p, true)
}

func TestSharedByHowMany(t *testing.T) {
	const all = "m , n , o"
	once, twice := calling("n"), calling("n", "n")
	for _, try := range []struct {
		does []string
		want bool
	}{
		{[]string{"skip"}, false},
		{[]string{once}, false},
		{[]string{twice}, false},
		{[]string{once, calling("m")}, false},
		{[]string{calling("m"), twice}, false},
		{[]string{once, once}, true},
		{[]string{twice, once}, true},
		{[]string{once, "skip", "skip", once}, true},
		{[]string{"skip", "skip", once, calling("o", "n")}, true},
		{[]string{once, once, once}, true},
		{[]string{once, once, once, twice}, true},
		{[]string{"while 0 do begin " + once + " end", "if 0 then begin skip end else begin " + once + " end"}, true},
	} {
		list := []visitor{}
		for _, does := range try.does {
			list = append(list, visitor{all, does})
		}
		p := readFrom(t, court(list...))
		sharedIs(t, p, 0, false)
		sharedIs(t, p, 1, try.want)
		sharedIs(t, p, 2, false)
		grantedIs(t, p, true)
	}
}

// Who uses a monitor may leave it uncalled, and who uses nothing calls nothing.
func TestMonitorsThatNobodyCalls(t *testing.T) {
	p := readFrom(t, court(visitor{"m , n", "skip"}, visitor{"n", calling("n")}, visitor{"", "skip"}))
	usersAre(t, p, 0, 0)
	usersAre(t, p, 1, 0, 1)
	usersAre(t, p, 2)
	callsAre(t, p, 0)
	callsAre(t, p, 1, 1)
	callsAre(t, p, 2)
	for m := range 3 {
		sharedIs(t, p, m, false)
	}
	grantedIs(t, p, true)
}

// Many that use a monitor don't call it by that.
func TestUsersAreNoCallers(t *testing.T) {
	v := visitor{"m , n , o", "skip"}
	p := readFrom(t, court(v, v, v, v))
	for m := range 3 {
		usersAre(t, p, m, 0, 1, 2, 3)
		sharedIs(t, p, m, false)
	}
	grantedIs(t, p, true)
}

// Calls count where they stand in bodies, also those that nobody may make.
func TestCallersAreNoUsers(t *testing.T) {
	v := visitor{"", calling("n")}
	p := readFrom(t, court(v, v))
	usersAre(t, p, 1)
	callsAre(t, p, 0, 1)
	callsAre(t, p, 1, 1)
	sharedIs(t, p, 1, true)
	grantedIs(t, p, false)
}

// A call in an entry is no call of a process, not even of one that calls the entry.
func TestCallsInEntries(t *testing.T) {
	p := readFrom(t, "monitor m ; entry e ( x ) begin call n . e ( 1 ) end ; entry f ( x ) begin call n . e ( 2 ) end ; end ; monitor n ; entry e ( x ) begin skip end ; end ; "+
		"process a uses m , n ; begin call m . e ( 1 ) end ; process b uses n , m ; begin call m . f ( 1 ) end ; .")
	callsAre(t, p, 0, 0)
	callsAre(t, p, 1, 0)
	sharedIs(t, p, 0, true)
	sharedIs(t, p, 1, false)
	grantedIs(t, p, false)
}

func TestNoMonitors(t *testing.T) {
	programs := []impl.Program{smallest(), ofNodes(20), {}}
	for _, p := range programs {
		for _, m := range append(placesBeyond(0), 1, 2) {
			usersAre(t, p, m)
			sharedIs(t, p, m, false)
			for process := range 4 {
				usesIs(t, p, process, m, false)
			}
		}
		for process := range 4 {
			callsAre(t, p, process)
		}
		grantedIs(t, p, len(p.Processes) > 0)
	}
	p := readFrom(t, "process a uses m ; begin call m . e ( 1 ) end ; process b uses m ; begin call m . e ( 1 ) end ; .")
	usesIs(t, p, 0, 0, false)
	callsAre(t, p, 0)
	callsAre(t, p, 1)
	sharedIs(t, p, 0, false)
	grantedIs(t, p, false)
}

func TestNoProcesses(t *testing.T) {
	p := readFrom(t, court(visitor{"m", calling("m")}))
	p.Processes = nil
	for m := range 3 {
		usesIs(t, p, 0, m, false)
		usersAre(t, p, m)
		sharedIs(t, p, m, false)
	}
	callsAre(t, p, 0)
	grantedIs(t, p, false)
}

// A place counts by its name: of two monitors of one name, both are used, and both are called.
func TestTwoMonitorsOfOneName(t *testing.T) {
	p := readFrom(t, court(visitor{"m", calling("m")}, visitor{"n", calling("n", "m")}))
	p.Monitors[2].Name = "m"
	for process, want := range [][]bool{{true, false, true}, {false, true, false}} {
		for m := range want {
			usesIs(t, p, process, m, want[m])
		}
	}
	usersAre(t, p, 0, 0)
	usersAre(t, p, 1, 1)
	usersAre(t, p, 2, 0)
	callsAre(t, p, 0, 0, 2)
	callsAre(t, p, 1, 0, 1, 2)
	sharedIs(t, p, 0, true)
	sharedIs(t, p, 1, false)
	sharedIs(t, p, 2, true)
	grantedIs(t, p, false)
}

// A name twice among the Uses is one use, and two processes of one name are two.
func TestUsesAndProcessesOfOneName(t *testing.T) {
	p := readFrom(t, court(visitor{"n , n", calling("n")}, visitor{"n", calling("n")}))
	p.Processes[1].Name = p.Processes[0].Name
	usersAre(t, p, 1, 0, 1)
	callsAre(t, p, 0, 1)
	callsAre(t, p, 1, 1)
	sharedIs(t, p, 1, true)
	grantedIs(t, p, false)
}

func TestCallsOfNoMonitor(t *testing.T) {
	p := readFrom(t, court(visitor{"m , p", calling("p", "m", "a", "e", "result")}, visitor{"m", calling("p")}))
	callsAre(t, p, 0, 0)
	callsAre(t, p, 1)
	for m := range 3 {
		sharedIs(t, p, m, false)
	}
	usersAre(t, p, 0, 0, 1)
	usersAre(t, p, 1)
	grantedIs(t, p, false)
}

// Names are texts of any bytes, in programs that are not right.
func TestRightsByAnyName(t *testing.T) {
	for _, name := range []string{"", "A", "\xff\x00", "result", "begin", "abcdefghi", "m "} {
		p := readFrom(t, court(visitor{"n", calling("n")}, visitor{"o", calling("o")}))
		p.Monitors[2].Name = name
		callsAre(t, p, 1)
		usersAre(t, p, 2)
		p.Processes[1].Uses[0] = name
		usersAre(t, p, 2, 1)
		for k := range p.Nodes {
			if p.Nodes[k].Kind == impl.NdCall {
				p.Nodes[k].Name = name
			}
		}
		callsAre(t, p, 0, 2)
		callsAre(t, p, 1, 2)
		sharedIs(t, p, 2, true)
		sharedIs(t, p, 1, false)
		grantedIs(t, p, false)
	}
}

func TestPlacesThatAreNone(t *testing.T) {
	v := visitor{"m , n , o", calling("o", "n", "m")}
	p := readFrom(t, court(v, v))
	for _, m := range placesBeyond(3) {
		for _, process := range append(placesBeyond(2), 0, 1) {
			usesIs(t, p, process, m, false)
		}
		usersAre(t, p, m)
		sharedIs(t, p, m, false)
	}
	for _, process := range placesBeyond(2) {
		for m := range 3 {
			usesIs(t, p, process, m, false)
		}
		callsAre(t, p, process)
	}
	for m := range 3 {
		usersAre(t, p, m, 0, 1)
		sharedIs(t, p, m, true)
	}
}

// subsetsOf are all lists of some of these, in each order.
func subsetsOf(list []string) [][]string {
	all := [][]string{{}}
	for _, first := range list {
		rest := slices.DeleteFunc(slices.Clone(list), func(name string) bool { return name == first })
		for _, others := range subsetsOf(rest) {
			all = append(all, append([]string{first}, others...))
		}
	}
	return all
}

// Promise 9: nobody calls what they do not use, where it is granted.
func TestGrantedIsToCallWhatIsUsed(t *testing.T) {
	lists := subsetsOf([]string{"m", "n", "o"})
	for _, uses := range lists {
		for _, calls := range lists {
			want := true
			for _, name := range calls {
				want = want && slices.Contains(uses, name)
			}
			v := visitor{strings.Join(uses, " , "), calling(calls...)}
			first, last := court(v, visitor{"", "skip"}), court(visitor{"m , n , o", calling("m", "n", "o")}, v)
			grantedIs(t, readFrom(t, first), want)
			grantedIs(t, readFrom(t, last), want)
		}
	}
}

func TestGrantedWhereverTheCallStands(t *testing.T) {
	for _, place := range around {
		for uses, want := range map[string]bool{"m": true, "n , m": true, "n": false, "o , n": false, "": false} {
			does := strings.Replace(place, "HERE", calling("m"), 1)
			p := readFrom(t, court(visitor{"m", "skip"}, visitor{uses, does}))
			grantedIs(t, p, want)
			callsAre(t, p, 1, 0)
		}
	}
}

// What others use grants nothing.
func TestGrantedByOnesOwnUses(t *testing.T) {
	grantedIs(t, readFrom(t, court(visitor{"m", calling("m")}, visitor{"n", calling("n")})), true)
	grantedIs(t, readFrom(t, court(visitor{"n", calling("m")}, visitor{"m", calling("n")})), false)
	grantedIs(t, readFrom(t, court(visitor{"m", calling("m")}, visitor{"m", calling("m")}, visitor{"m", calling("m")}, visitor{"n", calling("m")})), false)
	grantedIs(t, readFrom(t, court(visitor{"m , n , o", "skip"}, visitor{"", calling("o")})), false)
}

func TestNotGrantedWithAnyCode(t *testing.T) {
	for _, text := range namesWithFault {
		grantedIs(t, readFrom(t, text), false)
	}
	for _, statements := range faultsInEntry {
		for _, statement := range statements {
			grantedIs(t, readFrom(t, inEntry(statement)), false)
		}
	}
	for _, statements := range faultsInProcess {
		for _, statement := range statements {
			grantedIs(t, readFrom(t, inProcess(statement)), false)
		}
	}
	for _, p := range []impl.Program{{}, chain(5), ofNodes(161), deepProgram(11), deepBlocks(5), withKids([]int{0})} {
		grantedIs(t, p, false)
	}
}

func TestGrantedWithoutFault(t *testing.T) {
	for _, statement := range rightInEntry {
		grantedIs(t, readFrom(t, inEntry(statement)), true)
	}
	for _, statement := range rightInProcess {
		grantedIs(t, readFrom(t, inProcess(statement)), true)
	}
	grantedIs(t, readFrom(t, everyKind), true)
	grantedIs(t, fullHalls(t), true)
	grantedIs(t, ofNodes(160), true)
	grantedIs(t, deepBlocks(4), true)
}

// A body that has no depth calls nothing, whatever stands in it.
func TestBodiesWithoutDepth(t *testing.T) {
	call := impl.Node{Kind: impl.NdCall, Name: "m", More: "e"}
	p := impl.Program{Monitors: []impl.Monitor{{Name: "m"}}}
	p.Nodes = append(p.Nodes, call)
	for k := range 12 {
		p.Nodes = append(p.Nodes, impl.Node{Kind: impl.NdBlock, Kids: []int{k}})
	}
	for body := range p.Nodes {
		p.Processes = []impl.Process{{Body: body}, {Body: body}}
		want := []int{0}
		if body >= impl.MaxDeep {
			want = nil
		}
		callsAre(t, p, 0, want...)
		callsAre(t, p, 1, want...)
		sharedIs(t, p, 0, body < impl.MaxDeep)
	}
	// A call behind a node without a depth has none itself.
	p.Nodes = append(p.Nodes, call)
	p.Processes = []impl.Process{{Body: 13}, {Body: 13}, {Body: 0}}
	callsAre(t, p, 0)
	callsAre(t, p, 2, 0)
	sharedIs(t, p, 0, false)
}

func TestBodiesThatAreNowhere(t *testing.T) {
	v := visitor{"m , n , o", calling("o", "n", "m")}
	p := readFrom(t, court(v, v))
	for _, body := range placesBeyond(len(p.Nodes)) {
		p.Processes[1].Body = body
		callsAre(t, p, 0, 0, 1, 2)
		callsAre(t, p, 1)
		for m := range 3 {
			usersAre(t, p, m, 0, 1)
			sharedIs(t, p, m, false)
		}
		grantedIs(t, p, false)
	}
}

func TestKidsThatAreNowhere(t *testing.T) {
	for _, wrong := range append(placesBeyond(4), 2, 3) {
		p := impl.Program{
			Nodes: []impl.Node{
				{Kind: impl.NdCall, Name: "m"}, {Kind: impl.NdBlock, Kids: []int{0}},
				{Kind: impl.NdBlock, Kids: []int{0, wrong}}, {Kind: impl.NdBlock, Kids: []int{0}},
			},
			Monitors:  []impl.Monitor{{Name: "m"}},
			Processes: []impl.Process{{Body: 0}, {Body: 1}, {Body: 2}, {Body: 3}},
		}
		callsAre(t, p, 0, 0)
		callsAre(t, p, 1, 0)
		callsAre(t, p, 2)
		callsAre(t, p, 3)
		sharedIs(t, p, 0, true)
		p.Processes = p.Processes[1:]
		sharedIs(t, p, 0, false)
	}
}

// Of a node that is not right, its Kind tells whether it calls; other nodes don't, whatever they name.
func TestCallsThatAreNotRight(t *testing.T) {
	p := impl.Program{
		Nodes:     []impl.Node{{}, {Kids: []int{0, 0}}},
		Monitors:  []impl.Monitor{{Name: "n"}, {Name: "m"}},
		Processes: []impl.Process{{Body: 1}},
	}
	kinds := slices.Clone(notKinds)
	for _, kind := range nodeKinds {
		kinds = append(kinds, kind.kind)
	}
	for _, kind := range kinds {
		p.Nodes[0] = impl.Node{Kind: kind, Num: -5, Name: "m", More: "n", To: "n"}
		want := []int{}
		if kind == impl.NdCall {
			want = append(want, 1)
		}
		for _, above := range kinds {
			p.Nodes[1].Kind = above
			callsAre(t, p, 0, want...)
		}
	}
}
