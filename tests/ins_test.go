package tests

import (
	"fmt"
	"math"
	"slices"
	"testing"

	"loop.example/g00290/impl"
)

// unitB, unitA and unitOp are what B, A and Op are worth in a word: 2 to 22, to 25 and to 28.
const (
	unitB  = 4194304
	unitA  = 33554432
	unitOp = 268435456
)

func insOf(op, a, b, c int) impl.Ins { return impl.Ins{Op: op, A: a, B: b, C: c} }

// insIsWord asks that an Ins be right, be this word, come back from it, and be shown so.
func insIsWord(t *testing.T, x impl.Ins, word int, shown string) {
	t.Helper()
	if !impl.InsOk(x) {
		t.Errorf("InsOk(%+v) is false", x)
	}
	if got, ok := impl.Encode(x); got != word || !ok {
		t.Errorf("Encode(%+v) = %d, %v; want %d, true", x, got, ok, word)
	}
	if got, ok := impl.Decode(word); got != x || !ok {
		t.Errorf("Decode(%d) = %+v, %v; want %+v, true", word, got, ok, x)
	}
	if got := impl.ShowIns(x); got != shown {
		t.Errorf("ShowIns(%+v) = %q; want %q", x, got, shown)
	}
}

// insIsRight asks the same, with the word and the text worked out here.
func insIsRight(t *testing.T, x impl.Ins) {
	t.Helper()
	insIsWord(t, x, x.Op*unitOp+x.A*unitA+x.B*unitB+x.C, fmt.Sprintf("%d %d %d %d", x.Op, x.A, x.B, x.C))
}

// insIsWrong asks that an Ins be refused, with nothing beside.
func insIsWrong(t *testing.T, x impl.Ins) {
	t.Helper()
	if impl.InsOk(x) {
		t.Errorf("InsOk(%+v) is true", x)
	}
	if got, ok := impl.Encode(x); got != 0 || ok {
		t.Errorf("Encode(%+v) = %d, %v; want 0, false", x, got, ok)
	}
	if got := impl.ShowIns(x); got != "" {
		t.Errorf("ShowIns(%+v) = %q; want nothing", x, got)
	}
}

// wordIsNone asks that a number be no word, with nothing beside.
func wordIsNone(t *testing.T, word int) {
	t.Helper()
	if got, ok := impl.Decode(word); ok || got != (impl.Ins{}) {
		t.Errorf("Decode(%d) = %+v, %v; want nothing, false", word, got, ok)
	}
}

// notHeld are numbers that no field may have: below 0, and above all that one may; some would be right in their lower bits.
func notHeld() []int {
	numbers := []int{math.MinInt, math.MinInt + 1, math.MaxInt, math.MaxInt - 1, -1, -2, -7, -8, -256, impl.MaxArg + 1, impl.MaxArg + 2, impl.MaxArg + 8}
	for bit := 23; bit < 63; bit++ {
		numbers = append(numbers, 1<<bit, 1<<bit+1, -1<<bit, -1<<bit+1)
	}
	return numbers
}

// oneOfEach are right Ins, one of each of the ten, with no more than their Op wants.
func oneOfEach() []impl.Ins {
	return []impl.Ins{
		insOf(impl.InPut, 0, 0, 0), insOf(impl.InLoad, 0, 0, 0), insOf(impl.InStore, 0, 0, 0), insOf(impl.InCalc, 0, 0, 1), insOf(impl.InNot, 0, 0, 0),
		insOf(impl.InNeg, 0, 0, 0), insOf(impl.InZero, 0, 0, 0), insOf(impl.InJump, 0, 0, 0), insOf(impl.InTest, 0, 0, 0), insOf(impl.InSys, 1, 0, 0),
	}
}

func TestWordConstants(t *testing.T) {
	names := []int{impl.InPut, impl.InLoad, impl.InStore, impl.InCalc, impl.InNot, impl.InNeg, impl.InZero, impl.InJump, impl.InTest, impl.InSys}
	for i, op := range names {
		if op != i+1 {
			t.Errorf("Op %d has the number %d", i+1, op)
		}
	}
	if impl.MaxArg != 4194303 {
		t.Errorf("MaxArg = %d", impl.MaxArg)
	}
	// A number without a type goes where a byte does.
	if got := [...]byte{impl.InPut, impl.InSys}; got != [2]byte{1, 10} {
		t.Errorf("as bytes: %v", got)
	}
}

func TestKnownWords(t *testing.T) {
	for _, c := range []struct {
		ins   impl.Ins
		word  int
		shown string
	}{
		{insOf(impl.InPut, 0, 0, 0), 268435456, "1 0 0 0"},
		{insOf(impl.InPut, 2, 0, 17), 335544337, "1 2 0 17"},
		{insOf(impl.InPut, 7, 0, 1000000), 504316480, "1 7 0 1000000"},
		{insOf(impl.InLoad, 1, 0, 5), 570425349, "2 1 0 5"},
		{insOf(impl.InStore, 3, 0, 99), 905969763, "3 3 0 99"},
		{insOf(impl.InCalc, 1, 2, 3), 1115684867, "4 1 2 3"},
		{insOf(impl.InCalc, 7, 7, 9), 1337982985, "4 7 7 9"},
		{insOf(impl.InNot, 4, 0, 0), 1476395008, "5 4 0 0"},
		{insOf(impl.InNeg, 6, 0, 0), 1811939328, "6 6 0 0"},
		{insOf(impl.InZero, 7, 0, 800), 2113929216 + 800, "7 7 0 800"},
		{insOf(impl.InJump, 0, 0, 12), 2147483660, "8 0 0 12"},
		{insOf(impl.InTest, 7, 0, 0), 2650800128, "9 7 0 0"},
		{insOf(impl.InSys, 1, 0, 2), 2717908994, "10 1 0 2"},
		{insOf(impl.InSys, 7, 0, 4194303), 2923429887, "10 7 0 4194303"},
	} {
		insIsWord(t, c.ins, c.word, c.shown)
	}
}

func TestOpsAtTheirEdges(t *testing.T) {
	for _, x := range oneOfEach() {
		insIsRight(t, x)
		for _, op := range append(notHeld(), 0, 11, 12, 15, 16, 17, 26, 32, 256, 257) {
			wrong := x
			wrong.Op = op
			insIsWrong(t, wrong)
		}
	}
	insIsWrong(t, impl.Ins{})
	insIsRight(t, insOf(1, 0, 0, 0))
	insIsRight(t, insOf(10, 1, 0, 0))
}

func TestRegistersAtTheirEdges(t *testing.T) {
	for _, x := range oneOfEach() {
		for _, n := range append(notHeld(), 8, 9, 15, 16, 64, 256) {
			wrong := x
			wrong.A = n
			insIsWrong(t, wrong)
			wrong = x
			wrong.B = n
			insIsWrong(t, wrong)
			wrong.A = n
			insIsWrong(t, wrong)
		}
	}
	for n := range 8 {
		insIsRight(t, insOf(impl.InLoad, n, 0, 3))
		insIsRight(t, insOf(impl.InCalc, n, 7-n, 3))
		insIsRight(t, insOf(impl.InCalc, n, n, 3))
	}
}

func TestArgumentsAtTheirEdges(t *testing.T) {
	for _, x := range oneOfEach() {
		for _, c := range notHeld() {
			wrong := x
			wrong.C = c
			insIsWrong(t, wrong)
		}
	}
	for _, op := range list(impl.InLoad, impl.InStore, impl.InZero, impl.InTest, impl.InSys) {
		for _, c := range list(0, 1, 9, 10, 1000000, 1000001, impl.MaxArg-1, impl.MaxArg) {
			insIsRight(t, insOf(op, 1, 0, c))
			insIsRight(t, insOf(op, 7, 0, c))
		}
		insIsWrong(t, insOf(op, 1, 0, impl.MaxArg+1))
		insIsWrong(t, insOf(op, 1, 0, -1))
	}
	for _, c := range list(0, 1, 1000001, impl.MaxArg) {
		insIsRight(t, insOf(impl.InJump, 0, 0, c))
	}
}

func TestOperationsOfCalc(t *testing.T) {
	for c := 1; c <= 9; c++ {
		insIsRight(t, insOf(impl.InCalc, 3, 5, c))
	}
	for _, c := range append(notHeld(), 0, 10, 11, 17, 256, 257, 65537, impl.MaxVal, impl.MaxArg) {
		insIsWrong(t, insOf(impl.InCalc, 3, 5, c))
		insIsWrong(t, insOf(impl.InCalc, 0, 0, c))
	}
}

func TestPutOfAValueAlone(t *testing.T) {
	for _, c := range list(0, 1, impl.MaxVal-1, impl.MaxVal) {
		insIsRight(t, insOf(impl.InPut, 0, 0, c))
		insIsRight(t, insOf(impl.InPut, 7, 0, c))
	}
	for _, c := range list(-1, -impl.MaxVal, impl.MaxVal+1, impl.MaxVal+2, impl.MaxArg-1, impl.MaxArg, impl.MaxArg+1) {
		insIsWrong(t, insOf(impl.InPut, 0, 0, c))
	}
}

func TestCallsOfSys(t *testing.T) {
	for a := 1; a <= 7; a++ {
		insIsRight(t, insOf(impl.InSys, a, 0, 0))
		insIsRight(t, insOf(impl.InSys, a, 0, impl.MaxArg))
	}
	for _, a := range list(0, 8, -1) {
		insIsWrong(t, insOf(impl.InSys, a, 0, 0))
		insIsWrong(t, insOf(impl.InSys, a, 0, 5))
	}
}

func TestWhatAnOpDoesNotUse(t *testing.T) {
	for _, x := range oneOfEach() {
		for b := 1; b <= 7; b++ {
			with := x
			with.B = b
			if x.Op == impl.InCalc {
				insIsRight(t, with)
			} else {
				insIsWrong(t, with)
			}
		}
	}
	for a := 1; a <= 7; a++ {
		insIsWrong(t, insOf(impl.InJump, a, 0, 0))
		insIsWrong(t, insOf(impl.InJump, a, 0, 7))
	}
	for _, op := range list(impl.InNot, impl.InNeg) {
		for _, c := range list(1, 2, 9, impl.MaxVal, impl.MaxArg) {
			insIsWrong(t, insOf(op, 0, 0, c))
			insIsWrong(t, insOf(op, 7, 0, c))
		}
		for a := range 8 {
			insIsRight(t, insOf(op, a, 0, 0))
		}
	}
}

func TestAllFieldsAtTheEndsOfAnInt(t *testing.T) {
	ends := list(math.MinInt, math.MaxInt, math.MinInt+1, math.MaxInt-1)
	for _, end := range ends {
		for _, other := range ends {
			insIsWrong(t, insOf(end, other, end, other))
			insIsWrong(t, insOf(end, end, other, other))
			insIsWrong(t, insOf(1, end, other, 0))
			insIsWrong(t, insOf(1, 0, end, other))
		}
	}
	// Fields that are too great together with ones below 0 could make a number that is a word.
	insIsWrong(t, insOf(1, 8, -64, 0))
	insIsWrong(t, insOf(2, 1, 0, -1))
	insIsWrong(t, insOf(0, 8, 0, 5))
	insIsWrong(t, insOf(3, -8, 0, 5))
	insIsWrong(t, insOf(2, 0, 8, 5))
	insIsWrong(t, insOf(4, 1, -1, unitB+3))
}

func TestWordsThatAreNone(t *testing.T) {
	for _, word := range []int{
		0, -1, 1, 7, 8, 255, -2, -256, math.MinInt, math.MinInt + 1, math.MaxInt, math.MaxInt - 1,
		unitB, unitA, unitOp - 1, 11 * unitOp, 11*unitOp - 1, 11*unitOp + 5, 12 * unitOp, 15 * unitOp, 16*unitOp - 1, 16 * unitOp, 255 * unitOp,
		-unitOp, -1 * (2*unitOp + unitA), -10 * unitOp, -10*unitOp - unitA, math.MinInt + 2*unitOp, -1<<32 + 2*unitOp, math.MaxInt - unitOp,
	} {
		wordIsNone(t, word)
	}
}

func TestWordsOfFieldsThatAreNotRightTogether(t *testing.T) {
	for _, x := range []impl.Ins{
		insOf(impl.InPut, 1, 1, 0), insOf(impl.InPut, 0, 0, impl.MaxVal+1), insOf(impl.InPut, 7, 0, impl.MaxArg),
		insOf(impl.InLoad, 0, 1, 0), insOf(impl.InLoad, 7, 7, impl.MaxArg), insOf(impl.InStore, 0, 4, 0), insOf(impl.InZero, 0, 2, 9), insOf(impl.InTest, 7, 1, 0),
		insOf(impl.InCalc, 1, 2, 0), insOf(impl.InCalc, 1, 2, 10), insOf(impl.InCalc, 1, 2, impl.MaxArg),
		insOf(impl.InNot, 1, 0, 1), insOf(impl.InNot, 1, 1, 0), insOf(impl.InNeg, 1, 0, impl.MaxArg), insOf(impl.InNeg, 0, 7, 0),
		insOf(impl.InJump, 1, 0, 0), insOf(impl.InJump, 7, 0, 5), insOf(impl.InJump, 0, 1, 5),
		insOf(impl.InSys, 0, 0, 0), insOf(impl.InSys, 0, 0, 5), insOf(impl.InSys, 1, 1, 0), insOf(0, 1, 0, 5), insOf(11, 1, 0, 5), insOf(11, 7, 7, impl.MaxArg),
	} {
		wordIsNone(t, x.Op*unitOp+x.A*unitA+x.B*unitB+x.C)
		insIsWrong(t, x)
	}
}

func TestBitsAboveTheOp(t *testing.T) {
	for _, x := range oneOfEach() {
		word, _ := impl.Encode(x)
		for bit := 32; bit < 63; bit++ {
			wordIsNone(t, word+1<<bit)
			wordIsNone(t, word-1<<bit)
		}
		wordIsNone(t, word+math.MinInt)
		wordIsNone(t, -word)
		wordIsNone(t, ^word)
	}
}

func TestWordsInAscendingOrder(t *testing.T) {
	words := []int{}
	for _, x := range oneOfEach() {
		word, ok := impl.Encode(x)
		if !ok {
			t.Errorf("Encode(%+v) is false", x)
		}
		words = append(words, word)
	}
	if !slices.IsSorted(words) {
		t.Errorf("the words of greater Ops are not greater: %v", words)
	}
}
