package tests

import (
	"fmt"
	"slices"
	"testing"

	"loop.example/g00290/impl"
)

// coreRight is the chapter's rule of a core.
func coreRight(c impl.Core) bool {
	for _, n := range c.Regs {
		if n < -1000000 || n > 1000000 {
			return false
		}
	}
	return len(c.Regs) == 8 && c.Pc >= 0 && c.Process >= -1 && c.Process <= 3
}

// insAt is the word at this place of a text, told by dividing.
func insAt(text []int, pc int) (impl.Ins, bool) {
	if pc < 0 || pc >= len(text) || text[pc] < 0 {
		return impl.Ins{}, false
	}
	word := text[pc]
	x := insOf(word/unitOp, word/unitA%8, word/unitB%8, word%unitB)
	return x, insRight(x)
}

// opDeeds are what the ten do, each to a step that is already one further, and the fault.
var opDeeds = map[int]func(s *stepped, x impl.Ins) int{
	1: func(s *stepped, x impl.Ins) int { s.Core.Regs[x.A] = x.C; return 0 },
	2: func(s *stepped, x impl.Ins) int { return s.load(x) },
	3: func(s *stepped, x impl.Ins) int {
		if x.C >= len(s.Mem) {
			return 4
		}
		s.Mem[x.C] = s.Core.Regs[x.A]
		return 0
	},
	4: func(s *stepped, x impl.Ins) int {
		out, fault := impl.Calc(x.C, s.Core.Regs[x.A], s.Core.Regs[x.B])
		s.Core.Regs[x.A] = out
		return fault
	},
	5: func(s *stepped, x impl.Ins) int { s.Core.Regs[x.A] = truth(s.Core.Regs[x.A] == 0); return 0 },
	6: func(s *stepped, x impl.Ins) int { s.Core.Regs[x.A] *= -1; return 0 },
	7: func(s *stepped, x impl.Ins) int {
		if s.Core.Regs[x.A] == 0 {
			s.Core.Pc = x.C
		}
		return 0
	},
	8: func(s *stepped, x impl.Ins) int { s.Core.Pc = x.C; return 0 },
	9: func(s *stepped, x impl.Ins) int {
		fault := s.load(x)
		if fault == 0 {
			s.Mem[x.C] = 1
		}
		return fault
	},
	10: func(s *stepped, x impl.Ins) int { s.Code = 10; return 0 },
}

func (s *stepped) load(x impl.Ins) int {
	if x.C >= len(s.Mem) || s.Mem[x.C] > 1000000 || s.Mem[x.C] < -1000000 {
		return 4
	}
	s.Core.Regs[x.A] = s.Mem[x.C]
	return 0
}

// byTheRules is what a step should answer.
func byTheRules(c impl.Core, text, mem []int) stepped {
	same := stepped{deepCopy(c), slices.Clone(mem), 4}
	x, found := insAt(text, c.Pc)
	if !found || !coreRight(c) {
		return same
	}
	next := stepped{deepCopy(c), slices.Clone(mem), 0}
	next.Core.Pc++
	if fault := opDeeds[x.Op](&next, x); fault != 0 {
		same.Code = fault
		return same
	}
	return next
}

// manyWords are words of each Op with each register, and with arguments at the edges; and numbers that are none.
func manyWords() []int {
	words := list(0, -1, 1, 11*unitOp, unitOp-1, wordOf(impl.InSys, 0, 0, 4), wordOf(impl.InJump, 3, 0, 4), wordOf(impl.InNot, 3, 0, 4), wordOf(impl.InCalc, 3, 4, 10))
	for op := 1; op <= 10; op++ {
		for a := range 8 {
			for b := range 8 {
				for _, c := range list(0, 1, 2, 3, 4, 5, 6, 7, 8, 9, 99, 1000000, impl.MaxArg) {
					if insRight(insOf(op, a, b, c)) {
						words = append(words, wordOf(op, a, b, c))
					}
				}
			}
		}
	}
	return words
}

// someMems are memories without any place, with few and with many, some with what is no value.
func someMems() [][]int {
	return [][]int{nil, list(0), list(1), someMem(), make([]int, impl.MaxMem), list(0, 1000001, -1000001, 5, 1000000, -1000000, 7, 8, 9, notValues[5])}
}

// Each word by each of some cores, right and wrong, at each of some memories.
func TestStepsByTheRules(t *testing.T) {
	codes := map[int]int{}
	cores := [][]int{someRegs(), make([]int, 8), list(1000000, 999999, 1, -1, 0, -1000000, 2, 1001), list(0, 1, 0, 1, 0, 1, 0, 1), list(1000001, 0, 0, 0, 0, 0, 0, 0), list(1, 2, 3, 4, 5, 6, 7), list(1, 2, 3, 4, 5, 6, 7, 8, 9)}
	for _, word := range manyWords() {
		for i, regs := range cores {
			for _, mem := range someMems() {
				c := coreOf(i%3, i%4, regs...)
				text := with(list(wordOf(impl.InPut, 1, 0, 6), 0, wordOf(impl.InStore, 1, 0, 0)), c.Pc, word)
				want := byTheRules(c, text, mem)
				stepIs(t, c, text, mem, want)
				codes[want.Code]++
			}
		}
		if t.Failed() {
			t.FailNow()
		}
	}
	for _, code := range list(0, 1, 2, 4, 10) {
		if codes[code] < 20 {
			t.Errorf("code %d was told %d times", code, codes[code])
		}
	}
}

// A word changes no register but its A, no place of memory but its C, and these only where its Op puts something there.
func TestAWordDoesNothingElse(t *testing.T) {
	putsInA := list(impl.InPut, impl.InLoad, impl.InCalc, impl.InNot, impl.InNeg, impl.InTest)
	putsInMem := list(impl.InStore, impl.InTest)
	for _, word := range manyWords() {
		text := list(word)
		got := step(coreOf(0, 3, someRegs()...), text, someMem())
		x, _ := insAt(text, 0)
		for reg, n := range someRegs() {
			if got.Core.Regs[reg] != n && !(reg == x.A && slices.Contains(putsInA, x.Op)) {
				t.Errorf("%+v changes register %d", x, reg)
			}
		}
		for at, n := range someMem() {
			if got.Mem[at] != n && !(at == x.C && slices.Contains(putsInMem, x.Op)) {
				t.Errorf("%+v changes place %d", x, at)
			}
		}
		if got.Core.Process != 3 || len(got.Core.Regs) != 8 || len(got.Mem) != len(someMem()) || !impl.CoreOk(got.Core) {
			t.Errorf("behind %+v the core is %+v", x, got.Core)
		}
	}
}

// What a core does hangs on no place of a text but Pc, and on no place of memory that it does not touch.
func TestWhatACoreDoesNotLookAt(t *testing.T) {
	for _, word := range manyWords() {
		one := step(coreOf(1, 0, someRegs()...), list(0, word), list(7, 8, 9, 10))
		other := step(coreOf(1, 0, someRegs()...), list(wordOf(impl.InJump, 0, 0, 0), word, 5, -5), list(7, 8, 9, 10))
		if steppedTold(one) != steppedTold(other) {
			t.Errorf("the word %d does %s, and with others beside it %s", word, steppedTold(one), steppedTold(other))
		}
		touched := impl.TouchOf(list(word), 0)
		for at := range 4 {
			if at == touched {
				continue
			}
			third := step(coreOf(1, 0, someRegs()...), list(0, word), with(list(7, 8, 9, 10), at, 5000))
			if fmt.Sprint(third.Core, third.Code) != fmt.Sprint(one.Core, one.Code) || third.Mem[at] != 5000 {
				t.Errorf("the word %d hangs on place %d of memory", word, at)
			}
		}
	}
}

// runsOn is what comes of a core that goes on until a step tells something else than that it goes on, at most so often.
func runsOn(c impl.Core, text, mem []int, fuel int) (stepped, int) {
	s := stepped{c, mem, goesOn}
	steps := 0
	for s.Code == goesOn && steps < fuel {
		s = step(s.Core, text, s.Mem)
		steps++
	}
	return s, steps
}

func TestALoopOfWords(t *testing.T) {
	// Place 1 is how often, place 2 what the product is.
	text := list(
		wordOf(impl.InPut, 0, 0, 1), wordOf(impl.InStore, 0, 0, 2),
		wordOf(impl.InLoad, 1, 0, 1), wordOf(impl.InZero, 1, 0, 12),
		wordOf(impl.InLoad, 0, 0, 2), wordOf(impl.InCalc, 0, 1, impl.OpMul), wordOf(impl.InStore, 0, 0, 2),
		wordOf(impl.InPut, 2, 0, 1), wordOf(impl.InCalc, 1, 2, impl.OpSub), wordOf(impl.InStore, 1, 0, 1),
		wordOf(impl.InJump, 0, 0, 2), 0, wordOf(impl.InSys, 7, 0, 0),
	)
	product := 1
	for n := range 10 {
		product *= max(n, 1)
		end, steps := runsOn(impl.CoreNew(), text, list(0, n, 0), 1000)
		if end.Code != asks || end.Core.Pc != 13 || !slices.Equal(end.Mem, list(0, 0, product)) || steps != 2+9*n+3 {
			t.Errorf("%d: %s behind %d steps", n, steppedTold(end), steps)
		}
	}
	// From 10 down to 4 there is a product of 604800; 3 times that is no value, and the word with this fault stays to be done.
	end, _ := runsOn(impl.CoreNew(), text, list(0, 10, 0), 1000)
	want := stepped{coreOf(5, -1, 604800, 3, 1, 0, 0, 0, 0, 0), list(0, 3, 604800), impl.FaultRange}
	if steppedTold(end) != steppedTold(want) {
		t.Errorf("10: %s", steppedTold(end))
	}
	stepIs(t, end.Core, text, end.Mem, want)
}

// Two cores add to one place under a lock, one word at a time in whatever order, and none of what they add is lost.
func TestTwoCoresUnderALock(t *testing.T) {
	text := list(
		wordOf(impl.InTest, 7, 0, 0), wordOf(impl.InZero, 7, 0, 3), wordOf(impl.InJump, 0, 0, 0),
		wordOf(impl.InLoad, 0, 0, 1), wordOf(impl.InPut, 1, 0, 1), wordOf(impl.InCalc, 0, 1, impl.OpAdd), wordOf(impl.InStore, 0, 0, 1),
		wordOf(impl.InPut, 2, 0, 0), wordOf(impl.InStore, 2, 0, 0), wordOf(impl.InSys, 7, 0, 0),
	)
	for seed := range 200 {
		s := sown{turn: seed}
		cores, over := []impl.Core{impl.CoreNew(), impl.CoreNew()}, [2]bool{}
		mem := list(0, 40)
		for turns := 0; !over[0] || !over[1]; turns++ {
			if turns > 10000 {
				t.Fatalf("seed %d comes to no end", seed)
			}
			who := s.pick(2)
			if over[who] {
				continue
			}
			var code int
			cores[who], mem, code = impl.StepCore(cores[who], text, mem)
			over[who] = code == asks
			if code != goesOn && code != asks {
				t.Fatalf("seed %d: code %d", seed, code)
			}
		}
		if !slices.Equal(mem, list(0, 42)) {
			t.Errorf("seed %d: %v", seed, mem)
		}
	}
}

// Texts from all over, gone on with for long, against the rules.
func TestLongRunsByTheRules(t *testing.T) {
	words := manyWords()
	longest := 0
	for seed := range 400 {
		s := sown{turn: seed}
		text := make([]int, 6+s.pick(10))
		for i := range text {
			text[i] = words[s.pick(len(words))]
			// Most jumps are to stay in the text, and most places in memory.
			if x, ok := insAt(text, i); ok && x.Op != impl.InPut && x.C >= 10 {
				text[i] = wordOf(x.Op, x.A, x.B, s.pick(len(text)))
			}
		}
		now := stepped{impl.CoreNew(), make([]int, 14), goesOn}
		steps := 0
		for (now.Code == goesOn || now.Code == asks) && steps < 200 {
			want := byTheRules(now.Core, text, now.Mem)
			stepIs(t, now.Core, text, now.Mem, want)
			now = step(now.Core, text, now.Mem)
			steps++
		}
		longest = max(longest, steps)
		if t.Failed() {
			t.FailNow()
		}
	}
	if longest < 200 {
		t.Errorf("the longest run has %d steps", longest)
	}
}

// stepsToAsk are cores, texts and memories of all kinds.
func stepsToAsk() []stepArguments {
	asked := []stepArguments{}
	words := append([]int{0, wordOf(impl.InCalc, 0, 3, impl.OpDiv), wordOf(impl.InCalc, 5, 5, impl.OpAdd)}, manyWords()...)
	for i, word := range words {
		// Every tenth word does, behind the first ones.
		if i > 20 && i%10 != 0 {
			continue
		}
		for _, c := range []impl.Core{someCore(), impl.CoreNew(), {}, coreOf(-1, 2, someRegs()...), coreOf(1, 0, 5, 6, 7)} {
			for _, mem := range [][]int{nil, list(), someMem(), list(0, 1000001)} {
				asked = append(asked, stepArguments{c, list(word, word, 5), mem}, stepArguments{c, nil, mem})
			}
		}
	}
	return asked
}

type stepArguments struct {
	Core      impl.Core
	Text, Mem []int
}

func TestStepsLeaveWhatCameIn(t *testing.T) {
	for _, fresh := range stepsToAsk() {
		given := withRooms(fresh)
		was := toldWithRoom(given)
		got := step(given.Core, given.Text, given.Mem)
		impl.CoreOk(given.Core)
		impl.TouchOf(given.Text, 0)
		if toldWithRoom(given) != was {
			t.Fatalf("what came in was %.1000s and is %.1000s", was, toldWithRoom(given))
		}
		isNewMemory(t, "StepCore", got, given)
		if tight := step(fresh.Core, fresh.Text, fresh.Mem); steppedTold(tight) != steppedTold(got) {
			t.Fatalf("StepCore hangs on the room behind lists: %s, %s", steppedTold(tight), steppedTold(got))
		} else {
			isNewMemory(t, "StepCore without room", tight, fresh, got)
		}
		spoilList(got.Core.Regs)
		spoilList(got.Mem)
		if toldWithRoom(given) != was {
			t.Fatal("what is done to an answer is seen in what came in")
		}
	}
}

// Registers, text and memory that are handed in as one list come out apart.
func TestStepsOfOneMemory(t *testing.T) {
	for _, word := range manyWords() {
		memory := list(word, 1, 2, 3, 4, 5, 6, 7, 8, 9)
		given := stepArguments{coreOf(0, 0, memory[1:9]...), memory, memory[1:]}
		apart := deepCopy(given)
		got := step(given.Core, given.Text, given.Mem)
		isNewMemory(t, "StepCore of one memory", got, given)
		if want := step(apart.Core, apart.Text, apart.Mem); steppedTold(got) != steppedTold(want) {
			t.Errorf("of one memory %s, apart %s", steppedTold(got), steppedTold(want))
		}
		if !slices.Equal(memory, append(list(word), apart.Mem...)) {
			t.Fatalf("what was handed in is now %v", memory)
		}
	}
}

// However long the lists are, each call ends, and a call tells the same whatever was asked ahead of it.
func TestLongListsOfACore(t *testing.T) {
	long := slices.Repeat(list(5), 300000)
	text := slices.Repeat(list(wordOf(impl.InStore, 0, 0, 299999)), 300000)
	if impl.CoreOk(coreOf(0, 0, long...)) {
		t.Error("a core of many registers is right")
	}
	same := step(coreOf(0, 0, long...), text, long)
	if same.Code != noWords || !slices.Equal(same.Core.Regs, long) || !slices.Equal(same.Mem, long) {
		t.Error("a core of many registers is not as it was")
	}
	got := step(coreOf(299999, 0, someRegs()...), text, long)
	if got.Code != goesOn || got.Core.Pc != 300000 || !slices.Equal(got.Mem, with(long, 299999, 3)) {
		t.Error("the last word of a long text is not done")
	}
	if impl.TouchOf(text, 299999) != 299999 || impl.TouchOf(text, 300000) != -1 {
		t.Error("TouchOf of a long text")
	}
	if again := step(coreOf(299999, 0, someRegs()...), text, long); steppedTold(again) != steppedTold(got) {
		t.Error("the same step tells something else")
	}
}
