package tests

import (
	"fmt"
	"math"
	"slices"
	"testing"

	"loop.example/g00290/impl"
)

// What a step tells: that it goes on, that others must do something, and that there is no word to be done.
const (
	goesOn  = 0
	asks    = 10
	noWords = 4
)

// stepped is all that a step answers.
type stepped struct {
	Core impl.Core
	Mem  []int
	Code int
}

func coreOf(pc, process int, regs ...int) impl.Core {
	return impl.Core{Regs: regs, Pc: pc, Process: process}
}

func wordOf(op, a, b, c int) int { return op*unitOp + a*unitA + b*unitB + c }

func step(c impl.Core, text, mem []int) stepped {
	next, memory, code := impl.StepCore(c, text, mem)
	return stepped{next, memory, code}
}

func steppedTold(s stepped) string {
	return fmt.Sprint(s.Core.Regs, " at ", s.Core.Pc, " of ", s.Core.Process, ", mem ", s.Mem, ", code ", s.Code)
}

// stepIs asks for all that a step answers.
func stepIs(t *testing.T, c impl.Core, text, mem []int, want stepped) {
	t.Helper()
	if got := step(c, text, mem); steppedTold(got) != steppedTold(want) {
		t.Errorf("StepCore(%+v, %v, %v) is %.500s; want %.500s", c, text, mem, steppedTold(got), steppedTold(want))
	}
}

// stepStays asks that a step do nothing, and tell why.
func stepStays(t *testing.T, c impl.Core, text, mem []int, code int) {
	t.Helper()
	stepIs(t, c, text, mem, stepped{c, mem, code})
}

// someRegs are eight values, all unlike.
func someRegs() []int { return list(3, -4, 5, 0, 1, 1000000, -1000000, 7) }

// someMem are values, all unlike, the last place being 5.
func someMem() []int { return list(10, -20, 30, 0, 1, -1000000) }

// someCore is right, with Pc at 1.
func someCore() impl.Core { return coreOf(1, 2, someRegs()...) }

// with is a list of these numbers with another one at this place.
func with(numbers []int, at, n int) []int {
	changed := slices.Clone(numbers)
	changed[at] = n
	return changed
}

func TestCoreConstants(t *testing.T) {
	if impl.MaxMem != 100 || impl.GoOn != 0 || impl.GoSys != 10 {
		t.Errorf("MaxMem = %d, GoOn = %d, GoSys = %d", impl.MaxMem, impl.GoOn, impl.GoSys)
	}
	// What is a constant goes where an array's size does, and a number without a type where a byte does.
	if size := len([impl.MaxMem]int{}); size != 100 {
		t.Errorf("MaxMem as a size: %d", size)
	}
	if got := [...]byte{impl.MaxMem, impl.GoOn, impl.GoSys}; got != [3]byte{100, 0, 10} {
		t.Errorf("as bytes: %v", got)
	}
}

func TestNewCore(t *testing.T) {
	c := impl.CoreNew()
	if !slices.Equal(c.Regs, make([]int, 8)) || c.Pc != 0 || c.Process != -1 || !impl.CoreOk(c) {
		t.Errorf("CoreNew() is %+v", c)
	}
	isNewMemory(t, "CoreNew", c, impl.CoreNew())
}

// rightCores are cores at the edges of what is right.
func rightCores() []impl.Core {
	cores := []impl.Core{impl.CoreNew(), someCore()}
	for process := -1; process <= 3; process++ {
		cores = append(cores, coreOf(0, process, someRegs()...))
	}
	for _, pc := range list(0, 1, 799, 800, 801, impl.MaxArg, impl.MaxArg+1, math.MaxInt-1, math.MaxInt) {
		cores = append(cores, coreOf(pc, 0, someRegs()...))
	}
	for at := range 8 {
		for _, n := range valueEdges {
			cores = append(cores, coreOf(0, -1, with(someRegs(), at, n)...))
		}
	}
	return append(cores, coreOf(0, 3, slices.Repeat(list(impl.MaxVal), 8)...), coreOf(0, 3, slices.Repeat(list(-impl.MaxVal), 8)...))
}

// wrongCores are cores that are not right, most of them by one thing that the chapter names.
func wrongCores() []impl.Core {
	cores := []impl.Core{{}, coreOf(0, 0, nil...), coreOf(0, 0, list()...), coreOf(1, -1, 0)}
	for _, size := range list(1, 2, 6, 7, 9, 10, 16, 256) {
		cores = append(cores, coreOf(0, 0, make([]int, size)...), coreOf(1, 2, slices.Repeat(list(5), size)...))
	}
	for _, pc := range list(-1, -2, -8, -1<<32, math.MinInt, math.MinInt+1) {
		cores = append(cores, coreOf(pc, 0, someRegs()...), coreOf(pc, -1, make([]int, 8)...))
	}
	for _, process := range list(-2, 4, -3, 5, 8, 255, 256, 1<<32, -1<<32, math.MaxInt, math.MinInt) {
		cores = append(cores, coreOf(0, process, someRegs()...), coreOf(1, process, make([]int, 8)...))
	}
	for at := range 8 {
		for _, n := range notValues {
			cores = append(cores, coreOf(0, 0, with(make([]int, 8), at, n)...), coreOf(1, 2, with(someRegs(), at, n)...))
		}
	}
	return append(cores, coreOf(-1, 4, slices.Repeat(notValues, 2)...), coreOf(math.MinInt, math.MinInt, slices.Repeat(list(math.MinInt), 8)...))
}

func TestWhichCoresAreRight(t *testing.T) {
	for _, c := range rightCores() {
		if !impl.CoreOk(c) {
			t.Errorf("CoreOk(%+v) is false", c)
		}
	}
	for _, c := range wrongCores() {
		if impl.CoreOk(c) {
			t.Errorf("CoreOk(%+v) is true", c)
		}
	}
}

// deed is what a word does: what changes in a register, in memory and of Pc (none: -1), and the code.
type deed struct {
	ins                       impl.Ins
	reg, value, place, stored int
	pc, code                  int
}

// does asks that one word do this to someCore and to someMem, and nothing else.
func (d deed) does(t *testing.T) {
	t.Helper()
	want := stepped{someCore(), someMem(), d.code}
	want.Core.Pc = d.pc
	if d.reg >= 0 {
		want.Core.Regs[d.reg] = d.value
	}
	if d.place >= 0 {
		want.Mem[d.place] = d.stored
	}
	word := wordOf(d.ins.Op, d.ins.A, d.ins.B, d.ins.C)
	// What is ahead of the word and behind it is none, so that nothing but the word itself can be done.
	stepIs(t, someCore(), list(0, word, -1), someMem(), want)
	stepIs(t, someCore(), list(0, word), someMem(), want)
	// Another word beside it is not done.
	other := wordOf(impl.InPut, 6, 0, 999)
	stepIs(t, someCore(), list(other, word, other, other), someMem(), want)
}

func TestEachOpOnce(t *testing.T) {
	for _, d := range []deed{
		{insOf(impl.InPut, 2, 0, 17), 2, 17, -1, 0, 2, goesOn},
		{insOf(impl.InPut, 0, 0, 0), 0, 0, -1, 0, 2, goesOn},
		{insOf(impl.InPut, 7, 0, 1000000), 7, 1000000, -1, 0, 2, goesOn},
		{insOf(impl.InLoad, 0, 0, 0), 0, 10, -1, 0, 2, goesOn},
		{insOf(impl.InLoad, 3, 0, 1), 3, -20, -1, 0, 2, goesOn},
		{insOf(impl.InLoad, 7, 0, 5), 7, -1000000, -1, 0, 2, goesOn},
		{insOf(impl.InStore, 0, 0, 0), -1, 0, 0, 3, 2, goesOn},
		{insOf(impl.InStore, 1, 0, 4), -1, 0, 4, -4, 2, goesOn},
		{insOf(impl.InStore, 5, 0, 5), -1, 0, 5, 1000000, 2, goesOn},
		{insOf(impl.InCalc, 7, 1, impl.OpAdd), 7, 3, -1, 0, 2, goesOn},
		{insOf(impl.InCalc, 1, 7, impl.OpSub), 1, -11, -1, 0, 2, goesOn},
		{insOf(impl.InCalc, 2, 2, impl.OpMul), 2, 25, -1, 0, 2, goesOn},
		{insOf(impl.InNot, 3, 0, 0), 3, 1, -1, 0, 2, goesOn},
		{insOf(impl.InNot, 4, 0, 0), 4, 0, -1, 0, 2, goesOn},
		{insOf(impl.InNot, 6, 0, 0), 6, 0, -1, 0, 2, goesOn},
		{insOf(impl.InNeg, 0, 0, 0), 0, -3, -1, 0, 2, goesOn},
		{insOf(impl.InNeg, 1, 0, 0), 1, 4, -1, 0, 2, goesOn},
		{insOf(impl.InNeg, 3, 0, 0), 3, 0, -1, 0, 2, goesOn},
		{insOf(impl.InNeg, 5, 0, 0), 5, -1000000, -1, 0, 2, goesOn},
		{insOf(impl.InNeg, 6, 0, 0), 6, 1000000, -1, 0, 2, goesOn},
		{insOf(impl.InZero, 3, 0, 40), -1, 0, -1, 0, 40, goesOn},
		{insOf(impl.InZero, 4, 0, 40), -1, 0, -1, 0, 2, goesOn},
		{insOf(impl.InZero, 1, 0, 40), -1, 0, -1, 0, 2, goesOn},
		{insOf(impl.InZero, 6, 0, 40), -1, 0, -1, 0, 2, goesOn},
		{insOf(impl.InJump, 0, 0, 41), -1, 0, -1, 0, 41, goesOn},
		{insOf(impl.InTest, 7, 0, 3), 7, 0, 3, 1, 2, goesOn},
		{insOf(impl.InTest, 7, 0, 4), 7, 1, 4, 1, 2, goesOn},
		{insOf(impl.InTest, 0, 0, 5), 0, -1000000, 5, 1, 2, goesOn},
		{insOf(impl.InTest, 3, 0, 2), 3, 30, 2, 1, 2, goesOn},
		{insOf(impl.InSys, 1, 0, 0), -1, 0, -1, 0, 2, asks},
		{insOf(impl.InSys, 5, 0, 0), -1, 0, -1, 0, 2, asks},
		{insOf(impl.InSys, 7, 0, impl.MaxArg), -1, 0, -1, 0, 2, asks},
	} {
		d.does(t)
	}
}

func TestEachOperation(t *testing.T) {
	regs := list(0, 7, -2, 0, 0, 0, 0, 0)
	for op, want := range map[int]int{
		impl.OpAdd: 5, impl.OpSub: 9, impl.OpMul: -14, impl.OpDiv: -3, impl.OpMod: 1, impl.OpLess: 0, impl.OpSame: 0, impl.OpAnd: 1, impl.OpOr: 1,
	} {
		stepIs(t, coreOf(0, 0, regs...), list(wordOf(impl.InCalc, 1, 2, op)), nil, stepped{coreOf(1, 0, with(regs, 1, want)...), nil, goesOn})
	}
	for op, want := range map[int]int{
		impl.OpAdd: 5, impl.OpSub: -9, impl.OpMul: -14, impl.OpDiv: 0, impl.OpMod: -2, impl.OpLess: 1, impl.OpSame: 0, impl.OpAnd: 1, impl.OpOr: 1,
	} {
		stepIs(t, coreOf(0, 0, regs...), list(wordOf(impl.InCalc, 2, 1, op)), nil, stepped{coreOf(1, 0, with(regs, 2, want)...), nil, goesOn})
	}
	// A register with itself.
	for op, want := range map[int]int{
		impl.OpAdd: 14, impl.OpSub: 0, impl.OpMul: 49, impl.OpDiv: 1, impl.OpMod: 0, impl.OpLess: 0, impl.OpSame: 1, impl.OpAnd: 1, impl.OpOr: 1,
	} {
		stepIs(t, coreOf(0, 0, regs...), list(wordOf(impl.InCalc, 1, 1, op)), nil, stepped{coreOf(1, 0, with(regs, 1, want)...), nil, goesOn})
	}
}

func TestFaultsOfCalculations(t *testing.T) {
	for _, c := range []struct{ op, a, b, fault int }{
		{impl.OpAdd, 1000000, 1, impl.FaultRange}, {impl.OpAdd, -1, -1000000, impl.FaultRange}, {impl.OpAdd, 1000000, 1000000, impl.FaultRange},
		{impl.OpSub, -1000000, 1, impl.FaultRange}, {impl.OpSub, 1, -1000000, impl.FaultRange}, {impl.OpSub, 1000000, -1000000, impl.FaultRange},
		{impl.OpMul, 1001, 1000, impl.FaultRange}, {impl.OpMul, -1000000, 2, impl.FaultRange}, {impl.OpMul, 1000000, -1000000, impl.FaultRange},
		{impl.OpDiv, 5, 0, impl.FaultZero}, {impl.OpDiv, 0, 0, impl.FaultZero}, {impl.OpDiv, -1000000, 0, impl.FaultZero},
		{impl.OpMod, 5, 0, impl.FaultZero}, {impl.OpMod, 0, 0, impl.FaultZero}, {impl.OpMod, 1000000, 0, impl.FaultZero},
	} {
		core := coreOf(2, 1, 9, 9, 9, 9, c.a, 9, c.b, 9)
		word := wordOf(impl.InCalc, 4, 6, c.op)
		for _, mem := range [][]int{nil, someMem()} {
			stepStays(t, core, list(0, 0, word), mem, c.fault)
			stepStays(t, core, list(word, word, word, word), mem, c.fault)
		}
	}
	// One less on either side, and something comes out.
	for _, c := range []struct{ op, a, b, want int }{
		{impl.OpAdd, 999999, 1, 1000000}, {impl.OpSub, -999999, 1, -1000000}, {impl.OpMul, 1000, 1000, 1000000}, {impl.OpMul, 1000, -1000, -1000000},
		{impl.OpDiv, 1000000, -1, -1000000}, {impl.OpMod, 1000000, 999999, 1},
	} {
		stepIs(t, coreOf(0, 0, c.a, c.b, 0, 0, 0, 0, 0, 0), list(wordOf(impl.InCalc, 0, 1, c.op)), nil, stepped{coreOf(1, 0, c.want, c.b, 0, 0, 0, 0, 0, 0), nil, goesOn})
	}
}

// A register that is no value is in no right core, whatever would be made of it: such a core does no word, so that no calculation and no negation has a fault there.
func TestFaultsOfRegistersThatAreNoValues(t *testing.T) {
	for _, n := range notValues {
		for at := range 8 {
			core := coreOf(0, 0, with(someRegs(), at, n)...)
			for _, word := range list(wordOf(impl.InNeg, at, 0, 0), wordOf(impl.InNot, at, 0, 0), wordOf(impl.InStore, at, 0, 0), wordOf(impl.InPut, at, 0, 1), wordOf(impl.InCalc, at, 2, 1), wordOf(impl.InCalc, 2, at, 4)) {
				stepStays(t, core, list(word, word), someMem(), noWords)
			}
		}
	}
}

func TestTestAndSet(t *testing.T) {
	word := wordOf(impl.InTest, 7, 0, 0)
	for _, was := range append(slices.Clone(valueEdges), 5, -3) {
		stepIs(t, coreOf(0, 0, 1, 2, 3, 4, 5, 6, 7, 8), list(word), list(was, 9), stepped{coreOf(1, 0, 1, 2, 3, 4, 5, 6, 7, was), list(1, 9), goesOn})
	}
	// Who comes second finds that somebody was there.
	first := step(impl.CoreNew(), list(word), list(0))
	second := step(impl.CoreNew(), list(word), first.Mem)
	if first.Core.Regs[7] != 0 || second.Core.Regs[7] != 1 || !slices.Equal(second.Mem, list(1)) {
		t.Errorf("two cores: %s; %s", steppedTold(first), steppedTold(second))
	}
}

func TestJumps(t *testing.T) {
	// The end of this text is 4.
	text := list(wordOf(impl.InPut, 0, 0, 1), 0, wordOf(impl.InPut, 0, 0, 2), 0)
	for _, to := range list(0, 1, 2, 3, 4, 5, 100, 800, impl.MaxArg-1, impl.MaxArg) {
		for at := range 4 {
			jump, zero := with(text, at, wordOf(impl.InJump, 0, 0, to)), with(text, at, wordOf(impl.InZero, 3, 0, to))
			core := coreOf(at, 1, someRegs()...)
			there := coreOf(to, 1, someRegs()...)
			stepIs(t, core, jump, someMem(), stepped{there, someMem(), goesOn})
			stepIs(t, core, zero, someMem(), stepped{there, someMem(), goesOn})
			for reg, n := range someRegs() {
				if n != 0 {
					past := stepped{coreOf(at+1, 1, someRegs()...), someMem(), goesOn}
					stepIs(t, core, with(text, at, wordOf(impl.InZero, reg, 0, to)), someMem(), past)
				}
			}
			if to >= 4 {
				stepStays(t, there, jump, someMem(), noWords)
			}
			if !impl.CoreOk(there) {
				t.Errorf("a core that has jumped to %d is not right", to)
			}
		}
	}
}

func TestPcAtItsEdges(t *testing.T) {
	text := list(wordOf(impl.InPut, 0, 0, 100), wordOf(impl.InPut, 0, 0, 101), wordOf(impl.InPut, 0, 0, 102))
	for pc := range 3 {
		stepIs(t, coreOf(pc, -1, someRegs()...), text, nil, stepped{coreOf(pc+1, -1, with(someRegs(), 0, 100+pc)...), nil, goesOn})
	}
	for _, pc := range list(3, 4, 5, 100, 1<<32, 1<<32+1, math.MaxInt, math.MaxInt-1, -1, -2, -3, -1<<32, -1<<32+1, math.MinInt, math.MinInt+1) {
		for _, mem := range [][]int{nil, someMem()} {
			stepStays(t, coreOf(pc, 0, someRegs()...), text, mem, noWords)
			stepStays(t, coreOf(pc, 0, someRegs()...), nil, mem, noWords)
		}
	}
	// What stands behind the end of a text is none of it.
	stepStays(t, coreOf(2, 0, someRegs()...), text[:2], nil, noWords)
	stepStays(t, coreOf(0, 0, someRegs()...), text[:0], nil, noWords)
	if impl.TouchOf(list(0, wordOf(impl.InLoad, 0, 0, 5))[:1], 1) != -1 {
		t.Error("TouchOf looks past the end")
	}
}

func TestPlacesOfMemoryAtTheirEdges(t *testing.T) {
	for _, size := range list(1, 2, impl.MaxMem-1, impl.MaxMem, impl.MaxMem+1, 300) {
		mem := make([]int, size)
		for at := range mem {
			mem[at] = at + 50
		}
		for _, at := range list(0, size-1) {
			load, store, test := list(wordOf(impl.InLoad, 4, 0, at)), list(wordOf(impl.InStore, 1, 0, at)), list(wordOf(impl.InTest, 4, 0, at))
			got := coreOf(1, 0, with(someRegs(), 4, at+50)...)
			stepIs(t, coreOf(0, 0, someRegs()...), load, mem, stepped{got, mem, goesOn})
			stepIs(t, coreOf(0, 0, someRegs()...), test, mem, stepped{got, with(mem, at, 1), goesOn})
			stepIs(t, coreOf(0, 0, someRegs()...), store, mem, stepped{coreOf(1, 0, someRegs()...), with(mem, at, -4), goesOn})
		}
		for _, at := range list(size, size+1, size+8, impl.MaxArg) {
			for _, op := range list(impl.InLoad, impl.InStore, impl.InTest) {
				stepStays(t, coreOf(0, 0, someRegs()...), list(wordOf(op, 4, 0, at)), mem, noWords)
				stepStays(t, coreOf(0, 0, someRegs()...), list(wordOf(op, 4, 0, at)), mem[:0], noWords)
			}
		}
	}
	// C is a place of memory of these three alone.
	for _, x := range []impl.Ins{insOf(impl.InPut, 3, 0, 0), insOf(impl.InCalc, 3, 2, 9), insOf(impl.InZero, 3, 0, 9), insOf(impl.InJump, 0, 0, 9), insOf(impl.InSys, 3, 0, 9)} {
		if got := step(coreOf(0, 0, 1, 1, 1, 1, 1, 1, 1, 1), list(wordOf(x.Op, x.A, x.B, x.C)), nil); got.Code == noWords {
			t.Errorf("%+v wants a place of memory", x)
		}
	}
}

func TestWhatIsLoadedIsNoValue(t *testing.T) {
	for _, n := range notValues {
		mem := list(5, n, 6)
		for _, op := range list(impl.InLoad, impl.InTest) {
			stepStays(t, someCore(), list(0, wordOf(op, 4, 0, 1)), mem, noWords)
			stepStays(t, someCore(), list(0, wordOf(op, 4, 0, 1)), mem[:2], noWords)
		}
		// What is not loaded is not asked.
		stepIs(t, someCore(), list(0, wordOf(impl.InLoad, 4, 0, 2)), mem, stepped{coreOf(2, 2, with(someRegs(), 4, 6)...), mem, goesOn})
		stepIs(t, someCore(), list(0, wordOf(impl.InTest, 4, 0, 0)), mem, stepped{coreOf(2, 2, with(someRegs(), 4, 5)...), list(1, n, 6), goesOn})
		stepIs(t, someCore(), list(0, wordOf(impl.InStore, 0, 0, 1)), mem, stepped{coreOf(2, 2, someRegs()...), list(5, 3, 6), goesOn})
		stepIs(t, someCore(), list(0, wordOf(impl.InJump, 0, 0, 1)), mem, stepped{coreOf(1, 2, someRegs()...), mem, goesOn})
	}
}

func TestWordsThatACoreDoesNotDo(t *testing.T) {
	for _, word := range list(
		0, -1, 1, unitOp-1, 11*unitOp, 16*unitOp+5, math.MinInt, math.MaxInt, -1*wordOf(impl.InPut, 1, 0, 5), wordOf(impl.InPut, 1, 0, 5)+1<<32,
		wordOf(impl.InPut, 1, 0, impl.MaxVal+1), wordOf(impl.InPut, 1, 1, 5), wordOf(impl.InLoad, 1, 1, 0), wordOf(impl.InCalc, 1, 2, 0), wordOf(impl.InCalc, 1, 2, 10),
		wordOf(impl.InNot, 1, 0, 1), wordOf(impl.InNeg, 1, 1, 0), wordOf(impl.InJump, 1, 0, 0), wordOf(impl.InSys, 0, 0, 0),
	) {
		good := wordOf(impl.InPut, 1, 0, 5)
		stepStays(t, someCore(), list(good, word, good), someMem(), noWords)
		stepStays(t, someCore(), list(good, word), nil, noWords)
		if got := impl.TouchOf(list(good, word, good), 1); got != -1 {
			t.Errorf("TouchOf the word %d is %d", word, got)
		}
	}
}

func TestWrongCoresStay(t *testing.T) {
	for _, c := range wrongCores() {
		for _, mem := range [][]int{nil, list(), list(0), someMem()} {
			stepStays(t, c, nil, mem, noWords)
			stepStays(t, c, list(), mem, noWords)
			for _, x := range append(oneOfEach(), insOf(impl.InCalc, 5, 5, impl.OpAdd), insOf(impl.InCalc, 0, 3, impl.OpDiv), insOf(impl.InSys, 7, 0, 0)) {
				word := wordOf(x.Op, x.A, x.B, x.C)
				stepStays(t, c, list(word, word, word), mem, noWords)
			}
			stepStays(t, c, list(0, 0), mem, noWords)
		}
	}
}

func TestRightCoresOfAllKinds(t *testing.T) {
	for _, c := range rightCores() {
		if c.Pc > 1 {
			stepStays(t, c, list(wordOf(impl.InSys, 1, 0, 0)), nil, noWords)
			continue
		}
		next := deepCopy(c)
		next.Pc++
		stepIs(t, c, list(wordOf(impl.InSys, 1, 0, 0), wordOf(impl.InSys, 2, 0, 3)), nil, stepped{next, nil, asks})
		next.Regs[6] = 12
		stepIs(t, c, list(wordOf(impl.InPut, 6, 0, 12), wordOf(impl.InPut, 6, 0, 12)), someMem(), stepped{next, someMem(), goesOn})
	}
}

func TestTouchOf(t *testing.T) {
	touched := map[int]bool{impl.InLoad: true, impl.InStore: true, impl.InTest: true}
	for _, x := range oneOfEach() {
		for _, c := range list(0, 1, 9, 99, 100, 1000000, impl.MaxArg) {
			x.C = c
			if !insRight(x) {
				continue
			}
			want := -1
			if touched[x.Op] {
				want = c
			}
			for place := range 3 {
				text := with(list(0, wordOf(impl.InLoad, 1, 0, 77), wordOf(impl.InStore, 2, 0, 78)), place, wordOf(x.Op, x.A, x.B, x.C))
				if got := impl.TouchOf(text, place); got != want {
					t.Errorf("TouchOf %+v is %d; want %d", x, got, want)
				}
			}
		}
	}
	text := list(wordOf(impl.InLoad, 7, 0, 5), wordOf(impl.InTest, 7, 0, 6))
	for _, pc := range list(-1, -2, 2, 3, 1<<32, -1<<32, 1<<32+1, math.MaxInt, math.MinInt) {
		if got := impl.TouchOf(text, pc); got != -1 {
			t.Errorf("TouchOf at %d is %d", pc, got)
		}
		if got := impl.TouchOf(nil, pc); got != -1 {
			t.Errorf("TouchOf of no text at %d is %d", pc, got)
		}
	}
	if impl.TouchOf(nil, 0) != -1 || impl.TouchOf(text, 0) != 5 || impl.TouchOf(text, 1) != 6 {
		t.Error("TouchOf at a place of the text")
	}
}
