package tests

import (
	"math"
	"testing"

	"loop.example/g00290/impl"
)

// operations are the nine, written out as numbers of their own.
var operations = []int{1, 2, 3, 4, 5, 6, 7, 8, 9}

// notOperations are numbers just outside the nine, and the ends of what an int holds; some are one of the nine in their lower bytes.
var notOperations = []int{0, 10, 11, -1, -9, 257, 1<<32 + 1, 1<<63 - 1, -1 << 63, -1<<63 + 1}

// valueEdges are values at the ends of their range and round 0.
var valueEdges = []int{-1000000, -999999, -1000, -7, -2, -1, 0, 1, 2, 7, 1000, 999999, 1000000}

// notValues are numbers just outside the range, and the ends of what an int holds.
var notValues = []int{1000001, -1000001, 1 << 32, -1 << 32, 1<<32 + 1, math.MaxInt, math.MinInt, math.MaxInt - 1, math.MinInt + 1}

// calcs asks that an operation give a value, and no fault.
func calcs(t *testing.T, op, a, b, want int) {
	t.Helper()
	if got, fault := impl.Calc(op, a, b); got != want || fault != 0 {
		t.Errorf("Calc(%d, %d, %d) = %d, %d; want %d, 0", op, a, b, got, fault, want)
	}
}

// faults asks that an operation give 0, and this fault.
func faults(t *testing.T, op, a, b, want int) {
	t.Helper()
	if got, fault := impl.Calc(op, a, b); got != 0 || fault != want {
		t.Errorf("Calc(%d, %d, %d) = %d, %d; want 0, %d", op, a, b, got, fault, want)
	}
}

// truth is a condition as a value.
func truth(holds bool) int {
	if holds {
		return 1
	}
	return 0
}

func TestValueConstants(t *testing.T) {
	names := []int{impl.OpAdd, impl.OpSub, impl.OpMul, impl.OpDiv, impl.OpMod, impl.OpLess, impl.OpSame, impl.OpAnd, impl.OpOr}
	for i, op := range names {
		if op != operations[i] {
			t.Errorf("operation %d has the number %d", operations[i], op)
		}
	}
	for i, fault := range []int{impl.FaultRange, impl.FaultZero, impl.FaultQueue, impl.FaultWord} {
		if fault != i+1 {
			t.Errorf("fault %d has the number %d", i+1, fault)
		}
	}
	if impl.MaxVal != 1000000 {
		t.Errorf("MaxVal = %d", impl.MaxVal)
	}
	// A number without a type goes where a byte does.
	if got := [...]byte{impl.OpAdd, impl.OpOr, impl.FaultRange, impl.FaultWord}; got != [4]byte{1, 9, 1, 4} {
		t.Errorf("as bytes: %v", got)
	}
}

func TestValOk(t *testing.T) {
	for _, n := range valueEdges {
		if !impl.ValOk(n) {
			t.Errorf("ValOk(%d) is false", n)
		}
	}
	for _, n := range notValues {
		if impl.ValOk(n) {
			t.Errorf("ValOk(%d) is true", n)
		}
	}
}

func TestCalcOrdinary(t *testing.T) {
	for _, c := range []struct{ op, a, b, want int }{
		{impl.OpAdd, 2, 3, 5}, {impl.OpAdd, -2, 3, 1}, {impl.OpAdd, 2, -3, -1}, {impl.OpAdd, -2, -3, -5},
		{impl.OpSub, 2, 3, -1}, {impl.OpSub, -2, 3, -5}, {impl.OpSub, 2, -3, 5}, {impl.OpSub, -2, -3, 1},
		{impl.OpMul, 2, 3, 6}, {impl.OpMul, -2, 3, -6}, {impl.OpMul, 2, -3, -6}, {impl.OpMul, -2, -3, 6},
		{impl.OpDiv, 7, 2, 3}, {impl.OpDiv, -7, 2, -3}, {impl.OpDiv, 7, -2, -3}, {impl.OpDiv, -7, -2, 3},
		{impl.OpMod, 7, 2, 1}, {impl.OpMod, -7, 2, -1}, {impl.OpMod, 7, -2, 1}, {impl.OpMod, -7, -2, -1},
		{impl.OpDiv, 6, 3, 2}, {impl.OpDiv, 2, 7, 0}, {impl.OpDiv, -2, 7, 0}, {impl.OpDiv, 0, -5, 0},
		{impl.OpMod, 6, 3, 0}, {impl.OpMod, -6, 3, 0}, {impl.OpMod, 2, 7, 2}, {impl.OpMod, -2, 7, -2}, {impl.OpMod, 0, -5, 0},
		{impl.OpLess, 2, 3, 1}, {impl.OpLess, 3, 2, 0}, {impl.OpLess, 3, 3, 0}, {impl.OpLess, -3, 2, 1}, {impl.OpLess, -3, -2, 1}, {impl.OpLess, -2, -3, 0},
		{impl.OpSame, 3, 3, 1}, {impl.OpSame, -3, -3, 1}, {impl.OpSame, 3, -3, 0}, {impl.OpSame, 0, 0, 1}, {impl.OpSame, 0, 1, 0},
		{impl.OpAnd, 2, 4, 1}, {impl.OpAnd, -1, 1, 1}, {impl.OpAnd, -5, -5, 1}, {impl.OpAnd, 0, 4, 0}, {impl.OpAnd, 4, 0, 0}, {impl.OpAnd, 0, 0, 0},
		{impl.OpOr, 2, 4, 1}, {impl.OpOr, -1, 1, 1}, {impl.OpOr, 0, -4, 1}, {impl.OpOr, 4, 0, 1}, {impl.OpOr, 0, 0, 0},
	} {
		calcs(t, c.op, c.a, c.b, c.want)
	}
}

// wanted is what should come out of two values; the divisor isn't 0.
func wanted(op, a, b int) int {
	quotient := size(a) / size(b)
	if (a < 0) != (b < 0) {
		quotient = -quotient
	}
	return [...]int{0, a + b, a - b, a * b, quotient, a - quotient*b, truth(a < b), truth(a == b), truth(a*b != 0), truth(a*a+b*b != 0)}[op]
}

// size is a number without its sign.
func size(n int) int { return max(n, -n) }

func TestCalcAtTheEdges(t *testing.T) {
	for _, op := range operations {
		for _, a := range valueEdges {
			for _, b := range valueEdges {
				if b != 0 {
					comesOut(t, op, a, b)
				}
			}
		}
	}
}

// comesOut asks for what should come out, or for the fault when that is no value.
func comesOut(t *testing.T, op, a, b int) {
	t.Helper()
	if want := wanted(op, a, b); size(want) > 1000000 {
		faults(t, op, a, b, impl.FaultRange)
	} else {
		calcs(t, op, a, b, want)
	}
}

func TestCalcWithZero(t *testing.T) {
	for _, a := range valueEdges {
		set := truth(a != 0)
		calcs(t, impl.OpAdd, a, 0, a)
		calcs(t, impl.OpAdd, 0, a, a)
		calcs(t, impl.OpSub, a, 0, a)
		calcs(t, impl.OpSub, 0, a, -a)
		calcs(t, impl.OpSub, a, a, 0)
		calcs(t, impl.OpMul, a, 0, 0)
		calcs(t, impl.OpMul, 0, a, 0)
		calcs(t, impl.OpLess, a, 0, truth(a < 0))
		calcs(t, impl.OpLess, 0, a, truth(a > 0))
		calcs(t, impl.OpSame, a, 0, truth(a == 0))
		calcs(t, impl.OpAnd, a, 0, 0)
		calcs(t, impl.OpAnd, 0, a, 0)
		calcs(t, impl.OpOr, a, 0, set)
		calcs(t, impl.OpOr, 0, a, set)
	}
}

func TestQuotientAndRestMakeTheValueAgain(t *testing.T) {
	for a := -60; a <= 60; a++ {
		for b := -60; b <= 60; b++ {
			if b != 0 {
				remakes(t, a, b)
			}
		}
	}
	for _, a := range valueEdges {
		for _, b := range valueEdges {
			if b != 0 {
				remakes(t, a, b)
			}
		}
	}
}

// remakes asks that quotient times divisor and rest be the value again, the rest being less than the divisor and on the value's side of 0.
func remakes(t *testing.T, a, b int) {
	t.Helper()
	q, fault := impl.Calc(impl.OpDiv, a, b)
	r, other := impl.Calc(impl.OpMod, a, b)
	if fault != 0 || other != 0 || q*b+r != a || size(r) >= size(b) || r*a < 0 {
		t.Errorf("%d by %d: quotient %d (fault %d), rest %d (fault %d)", a, b, q, fault, r, other)
	}
}

func TestCalcAtJustTheGreatest(t *testing.T) {
	for _, c := range []struct{ op, a, b, want int }{
		{impl.OpAdd, 999999, 1, 1000000}, {impl.OpAdd, 1, 999999, 1000000}, {impl.OpAdd, 500000, 500000, 1000000}, {impl.OpAdd, 1000000, -1000000, 0},
		{impl.OpAdd, -999999, -1, -1000000}, {impl.OpAdd, -500000, -500000, -1000000}, {impl.OpAdd, 1000000, 0, 1000000},
		{impl.OpSub, 999999, -1, 1000000}, {impl.OpSub, -1, 999999, -1000000}, {impl.OpSub, -999999, 1, -1000000}, {impl.OpSub, 1000000, 1000000, 0},
		{impl.OpMul, 1000, 1000, 1000000}, {impl.OpMul, -1000, 1000, -1000000}, {impl.OpMul, -1000, -1000, 1000000}, {impl.OpMul, 1000000, -1, -1000000},
		{impl.OpMul, 500000, 2, 1000000}, {impl.OpMul, 333333, 3, 999999},
		{impl.OpDiv, 1000000, -1, -1000000}, {impl.OpDiv, -1000000, -1, 1000000}, {impl.OpDiv, 1000000, -1000000, -1},
	} {
		calcs(t, c.op, c.a, c.b, c.want)
	}
}

func TestCalcPastTheGreatest(t *testing.T) {
	for _, c := range []struct{ op, a, b int }{
		{impl.OpAdd, 1000000, 1}, {impl.OpAdd, 1, 1000000}, {impl.OpAdd, 500000, 500001}, {impl.OpAdd, 1000000, 1000000},
		{impl.OpAdd, -1000000, -1}, {impl.OpAdd, -500001, -500000}, {impl.OpAdd, -1000000, -1000000},
		{impl.OpSub, 1000000, -1}, {impl.OpSub, -1000000, 1}, {impl.OpSub, 1, -1000000}, {impl.OpSub, 1000000, -1000000}, {impl.OpSub, -1000000, 1000000},
		{impl.OpMul, 101, 9901}, {impl.OpMul, -101, 9901}, {impl.OpMul, 101, -9901}, {impl.OpMul, -101, -9901},
		{impl.OpMul, 1000, 1001}, {impl.OpMul, 1000000, 2}, {impl.OpMul, 1000000, 1000000}, {impl.OpMul, -1000000, 1000000}, {impl.OpMul, -1000000, -1000000},
		{impl.OpMul, 65536, 65536}, {impl.OpMul, 131072, 32768},
	} {
		faults(t, c.op, c.a, c.b, impl.FaultRange)
	}
}

func TestCalcOfNoValues(t *testing.T) {
	for _, op := range operations {
		for _, wrong := range notValues {
			for _, right := range valueEdges {
				faults(t, op, wrong, right, impl.FaultRange)
				faults(t, op, right, wrong, impl.FaultRange)
			}
			for _, other := range notValues {
				faults(t, op, wrong, other, impl.FaultRange)
			}
		}
	}
}

func TestCalcOfNoOperation(t *testing.T) {
	for _, op := range notOperations {
		for _, a := range append([]int{1000001, math.MaxInt, math.MinInt}, valueEdges...) {
			for _, b := range append([]int{-1000001, math.MaxInt, math.MinInt}, valueEdges...) {
				faults(t, op, a, b, impl.FaultRange)
			}
		}
	}
}

func TestCalcByZero(t *testing.T) {
	for _, op := range []int{impl.OpDiv, impl.OpMod} {
		for _, a := range valueEdges {
			faults(t, op, a, 0, impl.FaultZero)
		}
		for _, a := range notValues {
			faults(t, op, a, 0, impl.FaultRange)
		}
	}
}

func TestNegated(t *testing.T) {
	for _, a := range valueEdges {
		if got, fault := impl.Negated(a); got != 0-a || fault != 0 {
			t.Errorf("Negated(%d) = %d, %d", a, got, fault)
		}
	}
	for _, a := range notValues {
		if got, fault := impl.Negated(a); got != 0 || fault != impl.FaultRange {
			t.Errorf("Negated(%d) = %d, %d; want 0, %d", a, got, fault, impl.FaultRange)
		}
	}
}

func TestDenied(t *testing.T) {
	for _, a := range append(append([]int{}, valueEdges...), notValues...) {
		if got := impl.Denied(a); got != truth(a == 0) {
			t.Errorf("Denied(%d) = %d", a, got)
		}
	}
}
