package tests

import (
	"fmt"
	"runtime"
	"slices"
	"sync"
	"testing"
	"time"

	"loop.example/g00290/impl"
)

// isPlace is whether a line is this place, as the chapter says it.
func isPlace(l impl.Line, label string) bool { return l.Ins.Op == 0 && l.Label == label }

// linesRight is the chapter's rule of a list, told line by line and pair by pair.
func linesRight(of []impl.Line) bool {
	for i, l := range of {
		among := slices.Concat(of[:i], of[i+1:])
		isIt := func(label string) func(impl.Line) bool {
			return func(other impl.Line) bool { return isPlace(other, label) }
		}
		if l.Ins.Op == 0 {
			if l.Ins.A != 0 || l.Ins.B != 0 || l.Ins.C != 0 || l.Target != "" || len(l.Label) < 1 || len(l.Label) > 12 || slices.ContainsFunc(among, isIt(l.Label)) {
				return false
			}
			continue
		}
		x := l.Ins
		if l.Target != "" && x.Op != 4 {
			x.C = 0
		}
		if l.Label != "" || !insRight(x) || l.Target != "" && !slices.ContainsFunc(among, isIt(l.Target)) {
			return false
		}
	}
	return len(of) <= 900
}

// wordsAhead is how many words are ahead of the first line that is this place.
func wordsAhead(of []impl.Line, label string) int {
	for i, l := range of {
		if isPlace(l, label) {
			return len(slices.DeleteFunc(slices.Clone(of[:i]), func(l impl.Line) bool { return l.Ins.Op == 0 }))
		}
	}
	return -1
}

// textByTheRules is what should become of lines: each word by itself, one behind the other.
func textByTheRules(of []impl.Line) ([]int, bool) {
	text := []int{}
	for _, l := range of {
		if l.Ins.Op == 0 {
			continue
		}
		x := l.Ins
		if l.Target != "" {
			x.C = wordsAhead(of, l.Target)
		}
		if !insRight(x) {
			return nil, false
		}
		text = append(text, wordOf(x.Op, x.A, x.B, x.C))
	}
	return text, linesRight(of)
}

// linesByTheRules asks all four of a list, and tells whether it is right, and whether it has a text.
func linesByTheRules(t *testing.T, of []impl.Line) (bool, bool) {
	t.Helper()
	right := linesRight(of)
	if got := impl.LinesOk(of); got != right {
		t.Errorf("LinesOk(%s) is %v", linesTold(of), got)
	}
	text, whole := textByTheRules(of)
	if !whole {
		text = nil
	}
	if got, ok := impl.Assemble(of); ok != whole || !slices.Equal(got, text) {
		t.Errorf("Assemble(%s) is %v, %v; want %v, %v", linesTold(of), got, ok, text, whole)
	}
	words := 0
	for _, l := range of {
		words += truth(l.Ins.Op != 0)
		placeIs(t, of, l.Label, wordsAhead(of, l.Label))
		placeIs(t, of, l.Target, wordsAhead(of, l.Target))
	}
	if got := impl.CountOf(of); got != words {
		t.Errorf("CountOf(%s) is %d; want %d", linesTold(of), got, words)
	}
	return right, whole
}

// fewLines are lines of all kinds, right and wrong, that have much to do with each other.
func fewLines() []impl.Line {
	return lines(
		mark("x"), mark("y"), impl.Line{}, impl.Line{Label: "x", Target: "y"}, impl.Line{Label: "x", Ins: insOf(0, 0, 0, 1)},
		some(3), plain(impl.InSys, 0, 0, 0), impl.Line{Label: "x", Ins: insOf(1, 1, 0, 3)},
		aimed("x", impl.InJump, 0, 0, 0), aimed("y", impl.InJump, 0, 0, 7), aimed("z", impl.InJump, 0, 0, 0), aimed("x", impl.InJump, 1, 0, 0),
		aimed("x", impl.InCalc, 1, 2, 3), aimed("y", impl.InCalc, 1, 2, 0), aimed("x", impl.InNot, 1, 0, 5),
	)
}

// Each list of up to four of some lines.
func TestShortListsByTheRules(t *testing.T) {
	few := fewLines()
	right, whole := 0, 0
	for size := range 5 {
		of := make([]impl.Line, size)
		total := 1
		for range size {
			total *= len(few)
		}
		for n := range total {
			for at, rest := 0, n; at < size; at, rest = at+1, rest/len(few) {
				of[at] = few[rest%len(few)]
			}
			isRight, isWhole := linesByTheRules(t, of)
			right, whole = right+truth(isRight), whole+truth(isWhole)
			if t.Failed() {
				t.FailNow()
			}
		}
	}
	if right < 100 || whole < 100 || right == whole {
		t.Errorf("%d lists are right, %d have a text", right, whole)
	}
}

// sownLines are many lines, most of them right, with places in between.
func sownLines(seed int) []impl.Line {
	s := sown{turn: seed}
	of, places := []impl.Line{}, s.pick(9)
	for n := range places {
		of = append(of, mark(fmt.Sprint("l", n)))
	}
	for range s.pick(40) {
		l := impl.Line{Ins: oneOfEach()[s.pick(10)]}
		if l.Ins.Op != impl.InJump {
			l.Ins.A = 1 + s.pick(7)
		}
		if places > 0 && s.pick(2) == 0 && l.Ins.Op != impl.InCalc && l.Ins.Op != impl.InNot && l.Ins.Op != impl.InNeg {
			l.Target = fmt.Sprint("l", s.pick(places))
			l.Ins.C = s.pick(3) * impl.MaxArg
		}
		of = slices.Insert(of, s.pick(len(of)+1), l)
	}
	if len(of) > 0 && s.pick(6) == 0 {
		few := fewLines()
		of[s.pick(len(of))] = few[s.pick(len(few))]
	}
	return of
}

func TestManyListsByTheRules(t *testing.T) {
	right, whole, wrong := 0, 0, 0
	for seed := range 4000 {
		isRight, isWhole := linesByTheRules(t, sownLines(seed))
		right, whole, wrong = right+truth(isRight), whole+truth(isWhole), wrong+truth(!isRight)
		if t.Failed() {
			t.FailNow()
		}
	}
	if whole < 1000 || wrong < 100 {
		t.Errorf("%d lists are right, %d have a text, %d are wrong", right, whole, wrong)
	}
}

// A text hangs on where labels are put, and not on what they are called, nor on the order in which several are put at one place.
func TestWhatATextHangsOn(t *testing.T) {
	seen := 0
	for seed := range 1000 {
		of := sownLines(seed)
		text, ok := impl.Assemble(of)
		if !ok {
			continue
		}
		seen++
		renamed, swapped := slices.Clone(of), slices.Clone(of)
		for i, l := range of {
			if l.Label != "" {
				renamed[i].Label = "other " + l.Label
			}
			if l.Target != "" {
				renamed[i].Target = "other " + l.Target
			}
			if i > 0 && l.Ins.Op == 0 && of[i-1].Ins.Op == 0 {
				swapped[i-1], swapped[i] = swapped[i], swapped[i-1]
			}
		}
		assembles(t, renamed, text...)
		assembles(t, swapped, text...)
		// With each place told as a number, no label is wanted any more.
		told := []impl.Line{}
		for _, word := range text {
			x, _ := impl.Decode(word)
			told = append(told, impl.Line{Ins: x})
		}
		assembles(t, told, text...)
	}
	if seen < 200 {
		t.Errorf("%d lists had a text", seen)
	}
}

// Words with labels are run: a core comes to where the labels were put.
func TestALoopWithLabels(t *testing.T) {
	text, ok := impl.Assemble(lines(
		plain(impl.InPut, 0, 0, 1), plain(impl.InStore, 0, 0, 2),
		mark("again"), plain(impl.InLoad, 1, 0, 1), aimed("over", impl.InZero, 1, 0, 0),
		plain(impl.InLoad, 0, 0, 2), plain(impl.InCalc, 0, 1, impl.OpMul), plain(impl.InStore, 0, 0, 2),
		plain(impl.InPut, 2, 0, 1), plain(impl.InCalc, 1, 2, impl.OpSub), plain(impl.InStore, 1, 0, 1),
		aimed("again", impl.InJump, 0, 0, 0), mark("over"), plain(impl.InSys, 7, 0, 0),
	))
	if !ok || len(text) != 12 {
		t.Fatalf("Assemble is %v, %v", text, ok)
	}
	product := 1
	for n := range 10 {
		product *= max(n, 1)
		end, _ := runsOn(impl.CoreNew(), text, list(0, n, 0), 1000)
		if end.Code != asks || end.Core.Pc != 12 || !slices.Equal(end.Mem, list(0, 0, product)) {
			t.Errorf("%d: %s", n, steppedTold(end))
		}
	}
}

// listsToAsk are lists of all kinds.
func listsToAsk() [][]impl.Line {
	asked := [][]impl.Line{nil, {}, fill(900), fill(901), marks(900), append(fill(898), mark("x"), aimed("x", impl.InCalc, 1, 2, 3)), fewLines()}
	for seed := range 300 {
		asked = append(asked, sownLines(seed))
	}
	return asked
}

func TestListsOfLinesAreLeft(t *testing.T) {
	for _, fresh := range listsToAsk() {
		given := withRooms(fresh)
		was := toldWithRoom(given)
		text, ok := impl.Assemble(given)
		impl.LinesOk(given)
		impl.CountOf(given)
		impl.PlaceOf(given, "x")
		impl.PlaceOf(given, "l1")
		if toldWithRoom(given) != was {
			t.Fatalf("what came in was %.1000s and is %.1000s", was, toldWithRoom(given))
		}
		isNewMemory(t, "Assemble", text, given)
		tight, same := impl.Assemble(fresh)
		if same != ok || !slices.Equal(text, tight) {
			t.Fatalf("Assemble hangs on the room behind a list: %v, %v", text, tight)
		}
		isNewMemory(t, "Assemble once more", tight, text, given, fresh)
		told := slices.Clone(tight)
		spoilList(text)
		if third, _ := impl.Assemble(given); toldWithRoom(given) != was || !slices.Equal(tight, told) || !slices.Equal(third, told) {
			t.Fatal("what is done to an answer is seen elsewhere")
		}
	}
}

// What stands behind the end of a list is none of it.
func TestRoomBehindLines(t *testing.T) {
	of := lines(aimed("x", impl.InJump, 0, 0, 0), some(1), mark("x"), some(2))
	linesAreWrong(t, of[:2]...)
	placeIs(t, of[:2], "x", -1)
	assembles(t, of[:3], wordOf(8, 0, 0, 2), wordOf(1, 1, 0, 1))
	assembles(t, of[1:3], wordOf(1, 1, 0, 1))
	placeIs(t, of[1:], "x", 1)
}

// Who sends words has come to its end when a call answers, also where a word can't be encoded.
func TestNobodyGoesOnSending(t *testing.T) {
	was := runtime.NumGoroutine()
	for range 200 {
		for _, of := range [][]impl.Line{
			fill(900), lines(mark("x"), aimed("x", impl.InCalc, 1, 2, 3), some(1), some(2)), append(lines(mark("x"), aimed("x", impl.InCalc, 1, 2, 3)), fill(898)...), fill(901), nil,
			append(fill(898), mark("x"), aimed("x", impl.InNot, 1, 0, 0)), slices.Concat(lines(mark("x")), slices.Repeat(lines(aimed("x", impl.InCalc, 1, 2, 3)), 899)),
		} {
			impl.Assemble(of)
		}
	}
	// One that has closed its channel has nothing left to do, but may still be counted for a while.
	for range 1000 {
		if runtime.NumGoroutine() <= was {
			return
		}
		time.Sleep(time.Millisecond)
	}
	t.Errorf("there were %d goroutines, and are %d", was, runtime.NumGoroutine())
}

// Calls side by side, with one list in common, answer as each does alone.
func TestAssembledSideBySide(t *testing.T) {
	asked := listsToAsk()
	alone := make([]string, len(asked))
	for i, of := range asked {
		alone[i] = fmt.Sprint(impl.Assemble(of))
	}
	answers := make([][]string, 8)
	var all sync.WaitGroup
	for who := range answers {
		all.Go(func() {
			for _, of := range asked {
				answers[who] = append(answers[who], fmt.Sprint(impl.Assemble(of)))
			}
		})
	}
	all.Wait()
	for who, told := range answers {
		if !slices.Equal(told, alone) {
			t.Errorf("caller %d has another answer", who)
		}
	}
}
