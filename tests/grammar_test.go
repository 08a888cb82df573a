package tests

import (
	"slices"
	"strings"
	"testing"

	"loop.example/g00290/impl"
)

// theGrammar is the chapter's, a rule a line; NAME and NUM are signs, capitals what rules are of.
const theGrammar = `
Text: Monitors Processes .
Monitors:
Monitors: Monitors Monitor
Monitor: monitor NAME ; Vars Queues Entries end ;
Vars:
Vars: var Names ;
Queues:
Queues: queue Names ;
Entries:
Entries: Entries Entry
Entry: entry NAME ( NAME ) Block ;
Processes:
Processes: Processes Process
Process: process NAME Uses ; Vars Block ;
Uses:
Uses: uses Names
Names: NAME
Names: Names , NAME
Block: begin Statements end
Statements: Statement
Statements: Statements ; Statement
Statement: NAME := Value
Statement: if Value then Block
Statement: if Value then Block else Block
Statement: while Value do Block
Statement: call NAME . NAME ( Value )
Statement: call NAME . NAME ( Value ) to NAME
Statement: print Value
Statement: read NAME
Statement: delay NAME
Statement: continue NAME
Statement: skip
Value: Part
Value: Value and Part
Value: Value or Part
Part: Sum
Part: Sum < Sum
Part: Sum = Sum
Sum: Term
Sum: Sum + Term
Sum: Sum - Term
Term: Factor
Term: Term * Factor
Term: Term / Factor
Term: Term % Factor
Factor: NUM
Factor: NAME
Factor: ( Value )
Factor: not Factor
Factor: - Factor
`

// A way is a rule of which some of the symbols are read, from a sign on.
type way struct{ rule, read, from int }

// ways tell, ahead of each sign that is read and behind the last, all that may be gone on with: with any grammar, and no sign looked at ahead of its time.
type ways struct {
	rules [][]string
	sets  [][]way
}

func waysOfGrammar() ways {
	w := ways{}
	for _, line := range strings.Split(strings.TrimSpace(theGrammar), "\n") {
		of, symbols, _ := strings.Cut(line, ":")
		w.rules = append(w.rules, append([]string{of}, strings.Fields(symbols)...))
	}
	w.sets = [][]way{{{0, 0, 0}}}
	w.spread()
	return w
}

// next is the symbol that goes on with a way, empty at its end.
func (w ways) next(one way) string {
	if symbols := w.rules[one.rule][1:]; one.read < len(symbols) {
		return symbols[one.read]
	}
	return ""
}

// spread puts all ways into the last set that follow from those in it.
func (w ways) spread() {
	here := len(w.sets) - 1
	known := map[way]int{}
	set := []way{}
	add := func(one way) {
		if known[one] == 0 {
			known[one] = 1
			set = append(set, one)
		}
	}
	for _, one := range w.sets[here] {
		add(one)
	}
	for i := 0; i < len(set); i++ {
		one := set[i]
		symbol := w.next(one)
		if symbol == "" {
			from := w.sets[one.from]
			if one.from == here {
				from = set
			}
			for _, waits := range slices.Clone(from) {
				if w.next(waits) == w.rules[one.rule][0] {
					add(way{waits.rule, waits.read + 1, waits.from})
				}
			}
			continue
		}
		for r, rule := range w.rules {
			if rule[0] != symbol {
				continue
			}
			add(way{r, 0, here})
			// What may be nothing is passed over, since its end may have been seen ahead of this.
			if len(rule) == 1 {
				add(way{one.rule, one.read + 1, one.from})
			}
		}
	}
	w.sets[here] = set
}

// goOn are the ways behind one more sign; false when there are none.
func (w ways) goOn(symbol string) (ways, bool) {
	set := []way{}
	for _, one := range w.sets[len(w.sets)-1] {
		if w.next(one) == symbol {
			set = append(set, way{one.rule, one.read + 1, one.from})
		}
	}
	out := ways{w.rules, append(slices.Clip(w.sets), set)}
	if len(set) > 0 {
		out.spread()
	}
	return out, len(set) > 0
}

// done tells whether a whole text is read.
func (w ways) done() bool {
	return slices.Contains(w.sets[len(w.sets)-1], way{0, len(w.rules[0]) - 1, 0})
}

// symbolOf is as what a sign stands in the grammar.
func symbolOf(text string) string {
	switch {
	case slices.Contains(theKeyWords, text) || slices.Contains(theMarks, text):
		return text
	case '0' <= text[0] && text[0] <= '9':
		return "NUM"
	}
	return "NAME"
}

// oneOfEachSign are all signs, with one name and one number.
func oneOfEachSign() []string { return slices.Concat(theKeyWords, theMarks, []string{"n", "5"}) }

// follows asks of a text, whose signs go on behind ways, for what the grammar says of it.
func follows(t *testing.T, ahead ways, read, rest []string) {
	t.Helper()
	text := strings.Join(append(slices.Clip(read), rest...), " ")
	at := len(strings.Join(read, " "))
	if len(read) > 0 {
		at++
	}
	now, goesOn := ahead, true
	for _, sign := range rest {
		if now, goesOn = now.goOn(symbolOf(sign)); !goesOn {
			readingGoesWrong(t, text, at)
			return
		}
		at += len(sign) + 1
	}
	if !now.done() {
		endsTooSoon(t, text)
		return
	}
	if !strings.Contains(text, "process") {
		isReadButNotRight(t, text)
		return
	}
	p, fault := impl.ReadProgram(text)
	if fault != 0 {
		t.Errorf("ReadProgram(%q) = %+v, %d, which the grammar reads", text, p, fault)
		return
	}
	got, want := withoutBrackets(signsIn(p)), withoutBrackets(strings.Fields(text))
	if !slices.Equal(got, want) {
		t.Errorf("ReadProgram(%q) reads %v", text, got)
	}
}

func withoutBrackets(signs []string) []string {
	return slices.DeleteFunc(slices.Clone(signs), func(sign string) bool { return sign == "(" || sign == ")" })
}

// startTexts are right texts, small enough to be right when a sign is changed, and with everything in them.
var startTexts = []string{
	"monitor m ; var u , v ; queue q ; entry e ( x ) begin u := x ; delay q end ; entry f ( y ) begin continue q end ; end ; process a uses m , m ; var r , s ; begin read r ; if r < 10 then begin r := - r end else begin skip end ; while r do begin print r end ; call m . e ( r % 5 ) to s ; call m . f ( 1 ) end ; .",
	"monitor m ; queue q ; entry e ( x ) begin skip end ; end ; monitor n ; entry e ( x ) begin skip end ; end ; process a ; begin print not ( a + b * c ) ; print d = ( e / 2 - 1 ) and - 3 < 4 or f end ; process b ; begin skip ; skip end ; .",
	"process a ; begin if a then begin v := ( ( 1 ) ) end end ; process b uses a ; begin skip end ; process c ; var v ; begin print not not - 1 end ; .",
}

// eachPlace calls for each place of the start texts: with the ways there, the signs ahead and those behind.
func eachPlace(call func(now ways, read, rest []string)) {
	for _, text := range startTexts {
		signs := strings.Fields(text)
		now := waysOfGrammar()
		for i := range len(signs) + 1 {
			call(now, signs[:i], signs[i:])
			if i < len(signs) {
				now, _ = now.goOn(symbolOf(signs[i]))
			}
		}
	}
}

func TestTextsCutOffBehindEachSign(t *testing.T) {
	eachPlace(func(now ways, read, rest []string) {
		text := strings.Join(read, " ")
		if len(rest) == 0 {
			follows(t, now, read, nil)
			return
		}
		for _, end := range append([]string{"", "#", "# end ; ."}, between...) {
			endsTooSoon(t, text+end)
		}
	})
}

func TestTextsCutOffBehindEachByte(t *testing.T) {
	start := waysOfGrammar()
	for _, text := range startTexts {
		for size := range len(text) {
			cut := text[:size]
			if signs := strings.Fields(cut); !strings.HasSuffix(cut, ":") {
				if strings.HasSuffix(cut, " ") {
					endsTooSoon(t, cut)
				} else {
					follows(t, start, nil, signs)
				}
				continue
			}
			readingGoesWrong(t, cut, size-1)
		}
	}
}

func TestEachSignLeftOut(t *testing.T) {
	eachPlace(func(now ways, read, rest []string) {
		for out := range min(4, len(rest)) {
			follows(t, now, read, rest[out:])
		}
	})
}

func TestAnotherSignInEachPlace(t *testing.T) {
	eachPlace(func(now ways, read, rest []string) {
		for _, sign := range oneOfEachSign() {
			follows(t, now, read, []string{sign})
			follows(t, now, read, append([]string{sign}, rest...))
			if len(rest) > 0 {
				follows(t, now, read, append([]string{sign}, rest[1:]...))
			}
		}
	})
}

func TestTwoSignsChangePlaces(t *testing.T) {
	eachPlace(func(now ways, read, rest []string) {
		for with := 1; with < min(6, len(rest)); with++ {
			other := slices.Clone(rest)
			other[0], other[with] = other[with], other[0]
			follows(t, now, read, other)
		}
	})
}
