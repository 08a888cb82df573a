package tests

import (
	"slices"
	"testing"

	"loop.example/g00290/impl"
)

// opRule is what the fields of a right Ins may be, from the least to the greatest, as the chapter tells it of one Op.
type opRule struct {
	fromA, toA, toB, fromC, toC int
}

// opRules are the rules of the ten, by their numbers.
var opRules = map[int]opRule{
	1: {0, 7, 0, 0, 1000000}, 2: {0, 7, 0, 0, 4194303}, 3: {0, 7, 0, 0, 4194303}, 4: {0, 7, 7, 1, 9}, 5: {0, 7, 0, 0, 0},
	6: {0, 7, 0, 0, 0}, 7: {0, 7, 0, 0, 4194303}, 8: {0, 0, 0, 0, 4194303}, 9: {0, 7, 0, 0, 4194303}, 10: {1, 7, 0, 0, 4194303},
}

func insRight(x impl.Ins) bool {
	rule, found := opRules[x.Op]
	return found && rule.fromA <= x.A && x.A <= rule.toA && 0 <= x.B && x.B <= rule.toB && rule.fromC <= x.C && x.C <= rule.toC
}

// argumentEdges are the first and the last of what C may be of any Op, what is next to these, and each bit of it with what is next to that.
func argumentEdges() []int {
	edges := list(-1000000, -2, -1, 0, 3, 5, 6, 9, 10, 11, 999999, 1000000, 1000001, 4194302, 4194303, 4194304, 4194305)
	for bit := range 24 {
		edges = append(edges, 1<<bit-1, 1<<bit, 1<<bit+1)
	}
	return edges
}

func TestInsByTheRules(t *testing.T) {
	seen := map[int]impl.Ins{}
	for op := -2; op <= 18; op++ {
		for a := -2; a <= 9; a++ {
			for b := -2; b <= 9; b++ {
				for _, c := range argumentEdges() {
					x := insOf(op, a, b, c)
					if !insRight(x) {
						insIsWrong(t, x)
						continue
					}
					insIsRight(t, x)
					isTheOnlyOne(t, seen, x)
				}
			}
		}
		if t.Failed() {
			t.FailNow()
		}
	}
	// InPut has 8 registers with each value; InLoad, InStore, InZero and InTest have 8 with each argument, InJump and InSys 1 and 7; InCalc has two registers and nine operations; InNot and InNeg have 8 registers.
	values, arguments := edgesUpTo(impl.MaxVal), edgesUpTo(impl.MaxArg)
	if want := 8*values + (4*8+1+7)*arguments + 8*8*9 + 2*8; len(seen) != want {
		t.Errorf("%d words of %d right Ins", len(seen), want)
	}
}

// edgesUpTo is how many numbers among the edges are in 0 .. last.
func edgesUpTo(last int) int {
	edges := argumentEdges()
	slices.Sort(edges)
	count := 0
	for _, c := range slices.Compact(edges) {
		count += truth(0 <= c && c <= last)
	}
	return count
}

// isTheOnlyOne asks that no other Ins have been encoded as this one is.
func isTheOnlyOne(t *testing.T, seen map[int]impl.Ins, x impl.Ins) {
	t.Helper()
	word, _ := impl.Encode(x)
	if other, found := seen[word]; found && other != x {
		t.Errorf("%+v and %+v are both encoded as %d", x, other, word)
	}
	seen[word] = x
}

// Each number whose fields above C are any there may be, and some more on both sides, is a word just when the rules say so.
func TestWordsByTheRules(t *testing.T) {
	words := 0
	for head := -200; head < 20*64; head++ {
		for _, c := range argumentEdges() {
			if c < 0 || c >= unitB {
				continue
			}
			word := head*unitB + c
			x := insOf(head/64, head/8%8, head%8, c)
			if head < 0 || !insRight(x) {
				wordIsNone(t, word)
				continue
			}
			insIsRight(t, x)
			words++
		}
		if t.Failed() {
			t.FailNow()
		}
	}
	if words == 0 {
		t.Error("no word was asked")
	}
}

// Each argument that a word may have comes back, be it one that InPut refuses or one that InJump takes.
func TestEveryArgumentComesBack(t *testing.T) {
	for _, op := range list(impl.InPut, impl.InJump) {
		for c := range unitB {
			x := insOf(op, 0, 0, c)
			right := insRight(x)
			word, ok := impl.Encode(x)
			if ok != right || right && word != op*unitOp+c {
				t.Fatalf("Encode(%+v) = %d, %v", x, word, ok)
			}
			back, ok := impl.Decode(op*unitOp + c)
			if ok != right || right && back != x || !right && back != (impl.Ins{}) {
				t.Fatalf("Decode(%d) = %+v, %v", op*unitOp+c, back, ok)
			}
		}
	}
}

// A word with one bit turned is another word, or none.
func TestOneBitTurned(t *testing.T) {
	for _, x := range append(oneOfEach(), insOf(impl.InPut, 5, 0, 1000000), insOf(impl.InCalc, 6, 3, 9), insOf(impl.InSys, 7, 0, impl.MaxArg), insOf(impl.InTest, 7, 0, 0)) {
		word, _ := impl.Encode(x)
		for bit := range 64 {
			turned := word ^ 1<<bit
			back, ok := impl.Decode(turned)
			if !ok {
				wordIsNone(t, turned)
				continue
			}
			if back == x {
				t.Errorf("%d and %d are both decoded as %+v", word, turned, x)
			}
			if again, right := impl.Encode(back); again != turned || !right {
				t.Errorf("Decode(%d) = %+v, whose Encode is %d, %v", turned, back, again, right)
			}
		}
	}
}

// Numbers from all over: what is decoded is encoded as that number, and what is not is none that the rules know.
func TestAnyNumbers(t *testing.T) {
	rest := uint64(88172645463325252)
	words := 0
	for i := range 300000 {
		rest ^= rest << 13
		rest ^= rest >> 7
		rest ^= rest << 17
		number := int(rest)
		// Most numbers are no word, so that all but some are cut to the size of one, and some of these have small fields.
		if i%8 != 0 {
			number &= 1<<32 - 1
		}
		if i%8 > 3 {
			number &^= 7 << 22
		}
		x := insOf(number>>28, number>>25&7, number>>22&7, number&4194303)
		if insRight(x) {
			insIsRight(t, x)
			words++
		} else {
			wordIsNone(t, number)
		}
		if t.Failed() {
			t.FailNow()
		}
	}
	if words < 10000 {
		t.Errorf("only %d of the numbers are words", words)
	}
}

// A call tells the same, whatever was asked ahead of it.
func TestInsAnswersKeepNothing(t *testing.T) {
	known := append(oneOfEach(), insOf(impl.InCalc, 6, 3, 9), insOf(impl.InSys, 7, 0, impl.MaxArg))
	for _, x := range known {
		for _, other := range known {
			insIsRight(t, other)
			insIsWrong(t, insOf(other.Op, other.A, 8, other.C))
			wordIsNone(t, other.C)
			insIsRight(t, x)
		}
	}
}
