package tests

import (
	"fmt"
	"math"
	"slices"
	"strings"
	"testing"

	"loop.example/g00290/impl"
)

func lines(of ...impl.Line) []impl.Line { return of }

// mark is a place.
func mark(label string) impl.Line { return impl.Line{Label: label} }

// plain is a word without a Target.
func plain(op, a, b, c int) impl.Line { return impl.Line{Ins: insOf(op, a, b, c)} }

// aimed is a word with a Target.
func aimed(target string, op, a, b, c int) impl.Line {
	return impl.Line{Ins: insOf(op, a, b, c), Target: target}
}

// some is a word that is right wherever it stands.
func some(n int) impl.Line { return plain(impl.InPut, 1, 0, n) }

// fill are so many of these.
func fill(count int) []impl.Line {
	filled := []impl.Line{}
	for n := range count {
		filled = append(filled, some(n))
	}
	return filled
}

// marks are so many places, each with a Label of its own.
func marks(count int) []impl.Line {
	made := []impl.Line{}
	for n := range count {
		made = append(made, mark(fmt.Sprint("l", n)))
	}
	return made
}

// linesTold tells the first lines of a list, with whatever bytes their Labels have.
func linesTold(of []impl.Line) string {
	told := []string{}
	for _, l := range of[:min(len(of), 20)] {
		told = append(told, fmt.Sprintf("%.40q %v %.40q", l.Label, l.Ins, l.Target))
	}
	return fmt.Sprintf("%d lines: %s", len(of), strings.Join(told, ", "))
}

// assembles asks that a list be right, and become these words.
func assembles(t *testing.T, list []impl.Line, want ...int) {
	t.Helper()
	if !impl.LinesOk(list) {
		t.Errorf("LinesOk(%s) is false", linesTold(list))
	}
	if got, ok := impl.Assemble(list); !ok || !slices.Equal(got, want) {
		t.Errorf("Assemble(%s) is %v, %v; want %v, true", linesTold(list), got, ok, want)
	}
	if got := impl.CountOf(list); got != len(want) {
		t.Errorf("CountOf(%s) is %d; want %d", linesTold(list), got, len(want))
	}
}

func hasNoText(t *testing.T, list []impl.Line, right bool) {
	t.Helper()
	if got := impl.LinesOk(list); got != right {
		t.Errorf("LinesOk(%s) is %v", linesTold(list), got)
	}
	if got, ok := impl.Assemble(list); ok || len(got) != 0 {
		t.Errorf("Assemble(%s) is %v, %v; want nothing, false", linesTold(list), got, ok)
	}
}

// linesAreWrong asks that a list be refused.
func linesAreWrong(t *testing.T, of ...impl.Line) {
	t.Helper()
	hasNoText(t, of, false)
}

// cannotBeEncoded asks that a list be right, and yet have no text.
func cannotBeEncoded(t *testing.T, of ...impl.Line) {
	t.Helper()
	hasNoText(t, of, true)
}

func placeIs(t *testing.T, list []impl.Line, label string, want int) {
	t.Helper()
	if got := impl.PlaceOf(list, label); got != want {
		t.Errorf("PlaceOf(%s, %q) is %d; want %d", linesTold(list), label, got, want)
	}
}

func TestKnownLines(t *testing.T) {
	// As long as register 1 is not 0, it is one less.
	assembles(t, lines(
		plain(impl.InPut, 1, 0, 5), plain(impl.InPut, 2, 0, 1),
		mark("a"), aimed("b", impl.InZero, 1, 0, 0), plain(impl.InCalc, 1, 2, 2), aimed("a", impl.InJump, 0, 0, 0),
		mark("b"), plain(impl.InSys, 7, 0, 0),
	), 301989893, 335544321, 1912602629, 1115684866, 2147483650, 2919235584)
	// A lock: who finds place 0 taken tests it again.
	assembles(t, lines(
		mark("l0"), plain(impl.InTest, 7, 0, 0), aimed("l1", impl.InZero, 7, 0, 0), aimed("l0", impl.InJump, 0, 0, 0), mark("l1"),
	), 2650800128, 2113929219, 2147483648)
}

func TestWordsWithoutPlaces(t *testing.T) {
	list, want := []impl.Line{}, []int{}
	for _, x := range oneOfEach() {
		list = append(list, impl.Line{Ins: x})
		word, ok := impl.Encode(x)
		if !ok {
			t.Fatalf("Encode(%+v) is false", x)
		}
		want = append(want, word)
		assembles(t, lines(impl.Line{Ins: x}), word)
		assembles(t, list, want...)
	}
	slices.Reverse(list)
	slices.Reverse(want)
	assembles(t, list, want...)
}

func TestWhereLabelsArePut(t *testing.T) {
	list := lines(
		mark("first"), mark("again"), some(0), mark("one"), some(1), some(2), mark("three"), mark("so"), mark("too"), some(3), some(4), mark("end"), mark("behind"),
	)
	want := map[string]int{"first": 0, "again": 0, "one": 1, "three": 3, "so": 3, "too": 3, "end": 5, "behind": 5}
	for label, place := range want {
		placeIs(t, list, label, place)
		// A jump behind all of it goes there, and moves no place.
		placeIs(t, append(slices.Clone(list), aimed(label, impl.InJump, 0, 0, 0)), label, place)
		assembles(t, append(slices.Clone(list), aimed(label, impl.InJump, 0, 0, 0)),
			wordOf(1, 1, 0, 0), wordOf(1, 1, 0, 1), wordOf(1, 1, 0, 2), wordOf(1, 1, 0, 3), wordOf(1, 1, 0, 4), wordOf(8, 0, 0, place))
		// One ahead of all of it moves each by one.
		placeIs(t, append(lines(aimed(label, impl.InJump, 0, 0, 0)), list...), label, place+1)
		assembles(t, append(lines(aimed(label, impl.InJump, 0, 0, 0)), list...),
			wordOf(8, 0, 0, place+1), wordOf(1, 1, 0, 0), wordOf(1, 1, 0, 1), wordOf(1, 1, 0, 2), wordOf(1, 1, 0, 3), wordOf(1, 1, 0, 4))
	}
	for _, label := range []string{"", "f", "firs", "first ", "FIRST", "0", "zero", "behin"} {
		placeIs(t, list, label, -1)
	}
}

func TestEachPlaceAmongWords(t *testing.T) {
	for count := range 30 {
		for at := 0; at <= count; at++ {
			list := slices.Insert(fill(count), at, mark("here"))
			placeIs(t, list, "here", at)
			placeIs(t, list, "there", -1)
			want := []int{}
			for n := range count {
				want = append(want, wordOf(1, 1, 0, n))
			}
			assembles(t, list, want...)
			// What is behind a place doesn't move it.
			assembles(t, append(list, aimed("here", impl.InSys, 3, 0, 0)), append(want, wordOf(10, 3, 0, at))...)
		}
	}
}

// Each Op, with and without a Target, ahead of its place and behind it.
func TestTargetsOfEachOp(t *testing.T) {
	for _, x := range oneOfEach() {
		if x.Op == impl.InNot || x.Op == impl.InNeg {
			continue
		}
		to := func(target string) impl.Line { return impl.Line{Ins: x, Target: target} }
		word := func(c int) int { return wordOf(x.Op, x.A, x.B, c) }
		assembles(t, lines(some(8), mark("x"), to("x")), wordOf(1, 1, 0, 8), word(1))
		assembles(t, lines(to("x"), mark("x")), word(1))
		assembles(t, lines(to("x"), some(8), mark("x"), some(9)), word(2), wordOf(1, 1, 0, 8), wordOf(1, 1, 0, 9))
		assembles(t, lines(to("y"), some(8), mark("x"), to("x"), mark("y")), word(3), wordOf(1, 1, 0, 8), word(2))
		assembles(t, lines(impl.Line{Ins: x}, mark("x"), to("x")), wordOf(x.Op, x.A, x.B, x.C), word(1))
	}
}

// What InNot and InNeg don't use is 0, so that nothing but the first place is one for them.
func TestTargetsOfWordsWithoutC(t *testing.T) {
	for _, op := range list(impl.InNot, impl.InNeg) {
		for _, c := range list(0, 1, 9, impl.MaxArg, -1, math.MaxInt) {
			assembles(t, lines(mark("x"), aimed("x", op, 3, 0, c), some(1)), wordOf(op, 3, 0, 0), wordOf(1, 1, 0, 1))
			cannotBeEncoded(t, aimed("x", op, 3, 0, c), mark("x"))
			cannotBeEncoded(t, some(1), mark("x"), aimed("x", op, 3, 0, c), some(2))
		}
	}
}

func TestNoLinesAndPlacesAlone(t *testing.T) {
	assembles(t, nil)
	assembles(t, lines())
	assembles(t, fill(5)[:0])
	placeIs(t, nil, "x", -1)
	placeIs(t, nil, "", -1)
	for _, count := range list(1, 2, 3, 50, 900) {
		list := marks(count)
		assembles(t, list)
		for _, l := range list {
			placeIs(t, list, l.Label, 0)
		}
		placeIs(t, list, fmt.Sprint("l", count), -1)
	}
}

func TestAsManyLinesAsThereMayBe(t *testing.T) {
	for _, words := range list(0, 1, 450, 898, 899, 900, 901) {
		for _, size := range list(899, 900, 901) {
			if words > size {
				continue
			}
			list := append(fill(words), marks(size-words)...)
			if count := impl.CountOf(list); count != words {
				t.Errorf("CountOf %d words of %d lines is %d", words, size, count)
			}
			for n := range size - words {
				placeIs(t, list, fmt.Sprint("l", n), words)
			}
			if size == 901 {
				linesAreWrong(t, list...)
				continue
			}
			want := []int{}
			for n := range words {
				want = append(want, wordOf(1, 1, 0, n))
			}
			assembles(t, list, want...)
		}
	}
	// The last one that there is room for is the one that counts, be it a word or a place.
	assembles(t, lines(append(fill(898), mark("x"), aimed("x", impl.InJump, 0, 0, 0))...), append(wordsOf(fill(898)), wordOf(8, 0, 0, 898))...)
	assembles(t, lines(append(fill(898), aimed("x", impl.InJump, 0, 0, 0), mark("x"))...), append(wordsOf(fill(898)), wordOf(8, 0, 0, 899))...)
	linesAreWrong(t, append(fill(899), aimed("x", impl.InJump, 0, 0, 0), mark("x"))...)
}

// wordsOf are the words of lines without a Target.
func wordsOf(list []impl.Line) []int {
	words := []int{}
	for _, l := range list {
		words = append(words, wordOf(l.Ins.Op, l.Ins.A, l.Ins.B, l.Ins.C))
	}
	return words
}

func TestLengthsOfLabels(t *testing.T) {
	for _, label := range []string{"x", "0", " ", "\x00", "\n", "\xff", "X!", "abcdefghijkl", "l12345678901", strings.Repeat("é", 6), strings.Repeat("\x00", 12), "\xff\xfe\xfd\xfc\xfb\xfa\xf9\xf8\xf7\xf6\xf5\xf4"} {
		assembles(t, lines(some(1), mark(label), aimed(label, impl.InJump, 0, 0, 0)), wordOf(1, 1, 0, 1), wordOf(8, 0, 0, 1))
		placeIs(t, lines(some(1), mark(label)), label, 1)
	}
	for _, label := range []string{"", "abcdefghijklm", "l123456789012", strings.Repeat("é", 7), "é" + strings.Repeat("x", 11), strings.Repeat("\x00", 13), strings.Repeat("x", 256), strings.Repeat("x", 257), strings.Repeat("x", 268), strings.Repeat("x", 70000)} {
		linesAreWrong(t, mark(label))
		linesAreWrong(t, some(1), mark(label), some(2))
		linesAreWrong(t, mark("x"), mark(label))
		if label != "" {
			linesAreWrong(t, some(1), mark(label), aimed(label, impl.InJump, 0, 0, 0))
		}
	}
	// Labels that begin alike are not the same.
	assembles(t, lines(mark("a"), some(1), mark("aa"), aimed("a", impl.InJump, 0, 0, 0), aimed("aa", impl.InJump, 0, 0, 0), mark("A"), aimed("A", impl.InJump, 0, 0, 0)),
		wordOf(1, 1, 0, 1), wordOf(8, 0, 0, 0), wordOf(8, 0, 0, 1), wordOf(8, 0, 0, 3))
	assembles(t, lines(mark("abcdefghijkl"), some(1), mark("abcdefghijk"), aimed("abcdefghijkl", impl.InJump, 0, 0, 0), aimed("abcdefghijk", impl.InJump, 0, 0, 0)),
		wordOf(1, 1, 0, 1), wordOf(8, 0, 0, 0), wordOf(8, 0, 0, 1))
}

func TestAPlaceAtTheEnd(t *testing.T) {
	for count := range 40 {
		// The jump ahead of them is a word, too.
		ending := append(append(lines(aimed("end", impl.InJump, 0, 0, 0)), fill(count)...), mark("end"))
		assembles(t, ending, append(list(wordOf(8, 0, 0, count+1)), wordsOf(fill(count))...)...)
		placeIs(t, ending, "end", count+1)
		if impl.PlaceOf(ending, "end") != impl.CountOf(ending) {
			t.Errorf("a place behind %d words is not at their end", impl.CountOf(ending))
		}
		placeIs(t, append(ending, mark("too")), "too", count+1)
	}
	// The end is a place of nobody's word: there a core finds none.
	text, _ := impl.Assemble(lines(aimed("end", impl.InJump, 0, 0, 0), mark("end")))
	end, steps := runsOn(impl.CoreNew(), text, nil, 5)
	if steps != 2 || end.Core.Pc != 1 || end.Code != noWords {
		t.Errorf("a jump to the end: %s behind %d steps", steppedTold(end), steps)
	}
}

func TestTargetsNextToTheirLines(t *testing.T) {
	for ahead := range 4 {
		words := wordsOf(fill(ahead))
		for _, op := range list(impl.InJump, impl.InLoad, impl.InStore, impl.InZero, impl.InTest) {
			// Its own next one, and itself.
			assembles(t, append(fill(ahead), aimed("x", op, 0, 0, 0), mark("x")), append(words, wordOf(op, 0, 0, ahead+1))...)
			assembles(t, append(fill(ahead), aimed("x", op, 0, 0, 0), mark("x"), some(0)), append(words, wordOf(op, 0, 0, ahead+1), wordOf(1, 1, 0, 0))...)
			assembles(t, append(fill(ahead), mark("x"), aimed("x", op, 0, 0, 0)), append(words, wordOf(op, 0, 0, ahead))...)
			assembles(t, append(fill(ahead), mark("y"), mark("x"), mark("z"), aimed("x", op, 0, 0, 0), mark("w")), append(words, wordOf(op, 0, 0, ahead))...)
		}
	}
}

// The C of a word with a Target gives way to the place, whatever it is.
func TestWordsWithATargetAndAC(t *testing.T) {
	cs := append(notHeld(), 1, 2, 3, 9, 10, 800, impl.MaxVal, impl.MaxVal+1, impl.MaxArg-1, impl.MaxArg)
	for _, x := range oneOfEach() {
		if x.Op == impl.InCalc || x.Op == impl.InNot || x.Op == impl.InNeg {
			continue
		}
		for _, c := range cs {
			assembles(t, lines(some(5), some(6), mark("x"), aimed("x", x.Op, x.A, 0, c)), wordOf(1, 1, 0, 5), wordOf(1, 1, 0, 6), wordOf(x.Op, x.A, 0, 2))
			assembles(t, lines(mark("x"), aimed("x", x.Op, x.A, 0, c)), wordOf(x.Op, x.A, 0, 0))
			// Without a Target it has to be right by itself.
			alone := insOf(x.Op, x.A, 0, c)
			if insRight(alone) {
				assembles(t, lines(mark("x"), impl.Line{Ins: alone}), wordOf(x.Op, x.A, 0, c))
			} else {
				linesAreWrong(t, mark("x"), impl.Line{Ins: alone})
			}
		}
	}
}

func TestCalcWithATarget(t *testing.T) {
	for c := 1; c <= 9; c++ {
		for place := range 13 {
			list := append(fill(place), mark("x"), aimed("x", impl.InCalc, 2, 3, c))
			if 1 <= place && place <= 9 {
				assembles(t, list, append(wordsOf(fill(place)), wordOf(4, 2, 3, place))...)
			} else {
				cannotBeEncoded(t, list...)
			}
		}
	}
	for _, c := range append(notHeld(), 0, 10, 11, 17, 256, 257, impl.MaxArg) {
		for _, place := range list(0, 1, 5, 9, 10) {
			linesAreWrong(t, append(fill(place), mark("x"), aimed("x", impl.InCalc, 2, 3, c))...)
		}
		linesAreWrong(t, plain(impl.InCalc, 2, 3, c))
	}
}

// eachWay asks the same of a wrong line alone, first, in the middle and last.
func eachWay(t *testing.T, wrong impl.Line) {
	t.Helper()
	linesAreWrong(t, wrong)
	good := lines(mark("x"), some(1), mark("y"), aimed("x", impl.InJump, 0, 0, 0), aimed("y", impl.InZero, 7, 0, 0), mark("z"))
	assembles(t, good, wordOf(1, 1, 0, 1), wordOf(8, 0, 0, 0), wordOf(7, 7, 0, 1))
	for at := 0; at <= len(good); at++ {
		linesAreWrong(t, slices.Insert(slices.Clone(good), at, wrong)...)
	}
}

func TestPlacesThatAreNotBare(t *testing.T) {
	for _, n := range append(notHeld(), 1, 2, 7, 8, 9) {
		for _, wrong := range []impl.Ins{insOf(0, n, 0, 0), insOf(0, 0, n, 0), insOf(0, 0, 0, n), insOf(0, n, n, n)} {
			eachWay(t, impl.Line{Label: "here", Ins: wrong})
			eachWay(t, impl.Line{Ins: wrong})
			eachWay(t, impl.Line{Ins: wrong, Target: "x"})
		}
	}
	for _, target := range []string{"x", "y", "here", "z", "none", " "} {
		eachWay(t, impl.Line{Label: "here", Target: target})
		eachWay(t, impl.Line{Target: target})
	}
	eachWay(t, impl.Line{})
}

func TestWordsWithALabel(t *testing.T) {
	for _, x := range oneOfEach() {
		eachWay(t, impl.Line{Label: "here", Ins: x})
		eachWay(t, impl.Line{Label: "x", Ins: x})
		eachWay(t, impl.Line{Label: "here", Ins: x, Target: "x"})
		eachWay(t, impl.Line{Label: "here", Ins: x, Target: "here"})
		eachWay(t, impl.Line{Label: "abcdefghijklm", Ins: x})
	}
	// The Label of a word is no place.
	labelled := impl.Line{Label: "here", Ins: insOf(1, 1, 0, 3)}
	placeIs(t, lines(some(1), labelled), "here", -1)
	linesAreWrong(t, labelled, aimed("here", impl.InJump, 0, 0, 0))
	placeIs(t, lines(some(1), labelled, mark("here")), "here", 2)
	placeIs(t, lines(some(1), mark("here"), labelled), "here", 1)
}

func TestTwoPlacesOfOneLabel(t *testing.T) {
	for _, label := range []string{"x", "abcdefghijkl", "\x00", " "} {
		jump := aimed(label, impl.InJump, 0, 0, 0)
		linesAreWrong(t, mark(label), mark(label))
		linesAreWrong(t, mark(label), some(1), mark(label))
		linesAreWrong(t, mark(label), mark("y"), mark(label))
		linesAreWrong(t, mark(label), mark(label), jump)
		linesAreWrong(t, jump, mark(label), some(1), mark(label))
		linesAreWrong(t, mark(label), some(1), some(2), mark("y"), mark(label), mark(label), aimed("y", impl.InJump, 0, 0, 0))
		// The first of them is where PlaceOf finds it.
		placeIs(t, lines(some(1), mark(label), some(2), mark(label)), label, 1)
		placeIs(t, lines(some(1), mark(label), mark(label), some(2), mark(label)), label, 1)
	}
	for at := range 899 {
		linesAreWrong(t, append(marks(899), mark(fmt.Sprint("l", at)))...)
	}
}

func TestTargetsThatAreNowhere(t *testing.T) {
	for _, x := range oneOfEach() {
		for _, target := range []string{"none", "X", "x ", " x", "xx", "x\x00", "abcdefghijklm", "\x00", "begin", "0"} {
			eachWay(t, impl.Line{Ins: x, Target: target})
		}
	}
	linesAreWrong(t, aimed("x", impl.InJump, 0, 0, 0))
	linesAreWrong(t, some(1), aimed("x", impl.InJump, 0, 0, 0), mark("y"))
}

func TestWordsThatAreNotRight(t *testing.T) {
	wrong := []impl.Ins{
		insOf(11, 0, 0, 0), insOf(-1, 0, 0, 0), insOf(12, 1, 0, 3), insOf(256, 0, 0, 0), insOf(257, 0, 0, 0), insOf(math.MinInt, 0, 0, 0), insOf(math.MaxInt, 0, 0, 0), insOf(1<<32, 0, 0, 0), insOf(1<<32+1, 0, 0, 0),
		insOf(impl.InCalc, 1, 2, 0), insOf(impl.InCalc, 1, 2, 10), insOf(impl.InCalc, 1, 8, 3), insOf(impl.InCalc, 1, -1, 3), insOf(impl.InCalc, 8, 2, 3),
		insOf(impl.InJump, 1, 0, 0), insOf(impl.InJump, 7, 0, 3), insOf(impl.InSys, 0, 0, 0), insOf(impl.InSys, 8, 0, 0),
	}
	for _, x := range oneOfEach() {
		for _, n := range append(notHeld(), 8, 9, 16) {
			wrong = append(wrong, insOf(x.Op, n, x.B, x.C), insOf(x.Op, x.A, n, x.C))
		}
		if x.Op != impl.InCalc {
			wrong = append(wrong, insOf(x.Op, x.A, 1, x.C), insOf(x.Op, x.A, 7, x.C))
		}
	}
	for _, x := range wrong {
		eachWay(t, impl.Line{Ins: x})
		eachWay(t, impl.Line{Ins: x, Target: "x"})
	}
	// A C that is not right counts where it has to stay.
	for _, x := range []impl.Ins{
		insOf(impl.InPut, 1, 0, impl.MaxVal+1), insOf(impl.InPut, 1, 0, -1), insOf(impl.InLoad, 1, 0, impl.MaxArg+1), insOf(impl.InStore, 1, 0, -1), insOf(impl.InNot, 1, 0, 1), insOf(impl.InNeg, 1, 0, 9),
		insOf(impl.InZero, 1, 0, impl.MaxArg+1), insOf(impl.InJump, 0, 0, -5), insOf(impl.InTest, 1, 0, math.MinInt), insOf(impl.InSys, 1, 0, math.MaxInt),
	} {
		eachWay(t, impl.Line{Ins: x})
	}
}

func TestListsThatCannotBeEncoded(t *testing.T) {
	calc := aimed("x", impl.InCalc, 1, 2, 3)
	cannotBeEncoded(t, mark("x"), calc)
	cannotBeEncoded(t, mark("x"), calc, some(1), some(2))
	cannotBeEncoded(t, append(lines(mark("x"), calc), fill(898)...)...)
	cannotBeEncoded(t, append(lines(mark("x")), append(fill(898), calc)...)...)
	cannotBeEncoded(t, append(fill(898), mark("x"), calc)...)
	cannotBeEncoded(t, slices.Concat(lines(mark("x")), slices.Repeat(lines(calc), 899))...)
	cannotBeEncoded(t, slices.Concat(fill(10), lines(mark("x"), calc, aimed("x", impl.InNot, 1, 0, 0), some(1)))...)
	// One that can't be is enough, and one that can be, behind it, mends nothing.
	cannotBeEncoded(t, some(1), mark("x"), calc, aimed("x", impl.InNot, 1, 0, 0), calc)
	assembles(t, lines(some(1), mark("x"), calc, plain(impl.InNot, 1, 0, 0), calc), wordOf(1, 1, 0, 1), wordOf(4, 1, 2, 1), wordOf(5, 1, 0, 0), wordOf(4, 1, 2, 1))
}

// PlaceOf and CountOf hold for lists that are not right, too.
func TestPlacesAndCountsOfWrongLists(t *testing.T) {
	wrong := lines(
		plain(99, -1, 50, -3), impl.Line{Label: "a", Ins: insOf(0, 5, 5, 5), Target: "nowhere"}, plain(-1, 0, 0, 0), impl.Line{Label: "w", Ins: insOf(math.MinInt, 0, 0, 0)},
		mark("abcdefghijklmnop"), mark("a"), impl.Line{Label: "w", Ins: insOf(math.MaxInt, 0, 0, 0), Target: "nowhere"}, impl.Line{Label: "w", Ins: insOf(0, 0, 0, 1)}, plain(1<<32, 0, 0, 0), plain(256, 0, 0, 0),
	)
	linesAreWrong(t, wrong...)
	if got := impl.CountOf(wrong); got != 6 {
		t.Errorf("CountOf is %d", got)
	}
	placeIs(t, wrong, "a", 1)
	placeIs(t, wrong, "abcdefghijklmnop", 3)
	placeIs(t, wrong, "w", 4)
	placeIs(t, wrong, "nowhere", -1)
	placeIs(t, wrong, "", -1)
	// A line of nothing is a place whose Label is the empty one.
	placeIs(t, lines(some(1), some(2), impl.Line{}, some(3), impl.Line{}), "", 2)
	linesAreWrong(t, some(1), some(2), impl.Line{}, some(3))
}

func TestLongLists(t *testing.T) {
	list := slices.Concat(fill(100000), lines(mark("x")), fill(100000), lines(mark("end"), mark("x")), marks(100000))
	linesAreWrong(t, list...)
	if got := impl.CountOf(list); got != 200000 {
		t.Errorf("CountOf is %d", got)
	}
	placeIs(t, list, "x", 100000)
	placeIs(t, list, "end", 200000)
	placeIs(t, list, "l99999", 200000)
	placeIs(t, list, "none", -1)
	linesAreWrong(t, fill(1156)...)
	linesAreWrong(t, fill(66436)...)
	linesAreWrong(t, marks(1000)...)
}
