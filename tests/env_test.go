package tests

import (
	"fmt"
	"slices"
	"strings"
	"testing"

	"loop.example/g00290/impl"
)

// envOf is an Env with these names, and a Val for each.
func envOf(names string, vals ...int) impl.Env {
	return impl.Env{Names: strings.Fields(names), Vals: vals}
}

func envTold(e impl.Env) string { return fmt.Sprintf("%q %v", e.Names, e.Vals) }

// unlikeNames are so many right names, no two the same.
func unlikeNames(count int) []string {
	list := []string{}
	for i := range count {
		list = append(list, "n"+string(rune('a'+i/26))+string(rune('a'+i%26)))
	}
	return list
}

// sameEnv tells whether both have the same lists; an empty list and nil are the same.
func sameEnv(a, b impl.Env) bool {
	return slices.Equal(a.Names, b.Names) && slices.Equal(a.Vals, b.Vals)
}

func envOk(t *testing.T, e impl.Env, want bool) {
	t.Helper()
	if got := impl.EnvOk(e); got != want {
		t.Errorf("EnvOk(%.2000s) = %v, want %v", envTold(e), got, want)
	}
}

func gets(t *testing.T, e impl.Env, name string, want int) {
	t.Helper()
	if got := impl.GetIn(e, name); got != want {
		t.Errorf("GetIn(%.2000s, %q) = %d, want %d", envTold(e), name, got, want)
	}
}

func puts(t *testing.T, e impl.Env, name string, n int, want impl.Env) {
	t.Helper()
	if got := impl.PutIn(e, name, n); !sameEnv(got, want) {
		t.Errorf("PutIn(%.2000s, %q, %d) = %.2000s, want %.2000s", envTold(e), name, n, envTold(got), envTold(want))
	}
}

func together(t *testing.T, a, b, want impl.Env) {
	t.Helper()
	if got := impl.Together(a, b); !sameEnv(got, want) {
		t.Errorf("Together(%.2000s, %.2000s) = %.2000s, want %.2000s", envTold(a), envTold(b), envTold(got), envTold(want))
	}
}

// rightEnvs are Envs as they should be, of each size.
func rightEnvs() []impl.Env {
	return []impl.Env{
		{},
		{Names: []string{}, Vals: nil},
		envOf("v", 5),
		envOf("result", 1),
		envOf("x v", 0, 0),
		envOf("v x result", -1, impl.MaxVal, -impl.MaxVal),
		envOf("a b c d e f g", 1, 2, 3, 4, 5, 6, 7),
		envOf("a b c d longname f g result", 1, 2, 3, 4, 5, 6, 7, -8),
	}
}

// wrongEnvs are Envs that are not right, each in one way.
func wrongEnvs() []impl.Env {
	envs := []impl.Env{
		envOf("v"),
		envOf("", 1),
		envOf("v w", 1),
		envOf("v w", 1, 2, 3),
		envOf("a b c d e f g h", 1, 2, 3, 4, 5, 6, 7),
		envOf("a b c d e f g", 1, 2, 3, 4, 5, 6, 7, 8),
		envOf("a b c d e f g h i", 1, 2, 3, 4, 5, 6, 7, 8, 9),
		envOf("v v", 1, 2),
		envOf("v v", 1, 1),
		envOf("result v result", 1, 2, 3),
		envOf("a b c d e f g a", 1, 2, 3, 4, 5, 6, 7, 8),
		envOf("a b c d e f g g", 1, 2, 3, 4, 5, 6, 7, 8),
		{Names: unlikeNames(300), Vals: make([]int, 300)},
	}
	for _, name := range append([]string{""}, notNames...) {
		envs = append(envs, impl.Env{Names: []string{name, "v"}, Vals: []int{1, 2}}, impl.Env{Names: []string{"v", name}, Vals: []int{1, 2}})
	}
	for _, n := range notValues {
		envs = append(envs, envOf("v w", n, 2), envOf("v w", 2, n), envOf("a b c d e f g h", 1, 2, 3, 4, 5, 6, 7, n))
	}
	return envs
}

// allEnvs are right and wrong ones.
func allEnvs() []impl.Env { return append(rightEnvs(), wrongEnvs()...) }

func TestRightEnvs(t *testing.T) {
	for _, e := range rightEnvs() {
		envOk(t, e, true)
	}
	for _, n := range valueEdges {
		envOk(t, envOf("v w", n, 2), true)
		envOk(t, envOf("v w", 2, n), true)
	}
}

func TestWrongEnvs(t *testing.T) {
	for _, e := range wrongEnvs() {
		envOk(t, e, false)
	}
}

func TestEnvsOfEachSize(t *testing.T) {
	for size := range 20 {
		envOk(t, impl.Env{Names: unlikeNames(size), Vals: make([]int, size)}, size <= 8)
		for vals := range 20 {
			envOk(t, impl.Env{Names: unlikeNames(size), Vals: make([]int, vals)}, size == vals && size <= 8)
		}
	}
}

func TestEachTwoNamesOfAnEnv(t *testing.T) {
	for i := range 8 {
		for j := range 8 {
			e := impl.Env{Names: unlikeNames(8), Vals: []int{1, 2, 3, 4, 5, 6, 7, 8}}
			e.Names[i] = e.Names[j]
			envOk(t, e, i == j)
		}
	}
}

func TestEachWordAsAName(t *testing.T) {
	for _, word := range theKeyWords {
		envOk(t, envOf(word, 1), false)
		envOk(t, envOf("v "+word, 1, 2), false)
	}
	for _, name := range []string{"result", "results", "resul", "a", "z", "abcdefgh", "ends"} {
		envOk(t, envOf(name, 1), true)
	}
}

func TestGetsWhatANameStandsFor(t *testing.T) {
	e := envOf("v x result w", 5, -impl.MaxVal, 9, impl.MaxVal)
	for name, want := range map[string]int{
		"v": 5, "x": -impl.MaxVal, "result": 9, "w": impl.MaxVal,
		"": 0, "u": 0, "V": 0, "vx": 0, "v x": 0, "resul": 0, "results": 0, " v": 0, "v ": 0, "\xff": 0, "end": 0,
	} {
		gets(t, e, name, want)
		gets(t, impl.Env{}, name, 0)
	}
}

func TestGetsOfEachPlace(t *testing.T) {
	for size := range 12 {
		e := impl.Env{Names: unlikeNames(size)}
		for i := range size {
			e.Vals = append(e.Vals, 10+i)
		}
		for i, name := range e.Names {
			gets(t, e, name, 10+i)
		}
		gets(t, e, "none", 0)
	}
}

func TestGetsTheFirstOfAName(t *testing.T) {
	e := envOf("w v v w v", 1, 2, 3, 4, 5)
	gets(t, e, "v", 2)
	gets(t, e, "w", 1)
	gets(t, envOf("v v", 0, 3), "v", 0)
}

// A name is looked for whether or not it, or the rest of its Env, is right.
func TestGetsInWrongEnvs(t *testing.T) {
	for _, n := range notValues {
		gets(t, envOf("v w", n, 2), "v", n)
		gets(t, envOf("v w", n, 2), "w", 2)
	}
	for _, name := range append([]string{"", "end"}, notNames...) {
		e := impl.Env{Names: []string{"v", name}, Vals: []int{1, 2}}
		gets(t, e, name, 2)
		gets(t, e, "v", 1)
	}
	fewVals := envOf("v w x w", 1)
	gets(t, fewVals, "v", 1)
	gets(t, fewVals, "w", 0)
	gets(t, fewVals, "x", 0)
	gets(t, envOf("v"), "v", 0)
	fewNames := envOf("v", 1, 2, 3)
	gets(t, fewNames, "v", 1)
	gets(t, fewNames, "", 0)
	gets(t, envOf("", 4), "", 0)
}

func TestPutsAVal(t *testing.T) {
	e := envOf("v x result", 5, 6, 7)
	puts(t, e, "v", 1, envOf("v x result", 1, 6, 7))
	puts(t, e, "x", 1, envOf("v x result", 5, 1, 7))
	puts(t, e, "result", 1, envOf("v x result", 5, 6, 1))
	puts(t, e, "x", 6, e)
	for _, name := range []string{"u", "", "resul", "results", "V", "v x", "v ", "end", "\xff"} {
		puts(t, e, name, 1, e)
		puts(t, impl.Env{}, name, 1, impl.Env{})
	}
}

func TestPutsEachValue(t *testing.T) {
	e := envOf("v x", 5, 6)
	for _, n := range valueEdges {
		puts(t, e, "v", n, envOf("v x", n, 6))
		puts(t, e, "x", n, envOf("v x", 5, n))
	}
	for _, n := range notValues {
		puts(t, e, "v", n, e)
		puts(t, e, "x", n, e)
		puts(t, e, "none", n, e)
		puts(t, impl.Env{}, "v", n, impl.Env{})
	}
}

func TestPutsTheFirstOfAName(t *testing.T) {
	e := envOf("w v v w v", 1, 2, 3, 4, 5)
	puts(t, e, "v", 9, envOf("w v v w v", 1, 9, 3, 4, 5))
	puts(t, e, "w", 9, envOf("w v v w v", 9, 2, 3, 4, 5))
}

func TestPutsInWrongEnvs(t *testing.T) {
	fewVals := envOf("v w x", 1)
	puts(t, fewVals, "v", 9, envOf("v w x", 9))
	puts(t, fewVals, "w", 9, fewVals)
	puts(t, fewVals, "x", 9, fewVals)
	puts(t, envOf("v"), "v", 9, envOf("v"))
	fewNames := envOf("v", 1, 2, 3)
	puts(t, fewNames, "v", 9, envOf("v", 9, 2, 3))
	puts(t, fewNames, "w", 9, fewNames)
	puts(t, envOf("", 1, 2), "", 9, envOf("", 1, 2))
	for _, n := range notValues {
		puts(t, envOf("v w", n, 2), "w", 9, envOf("v w", n, 9))
		puts(t, envOf("v w", n, 2), "v", 9, envOf("v w", 9, 2))
		puts(t, envOf("v w", n, 2), "v", n, envOf("v w", n, 2))
	}
	for _, name := range append([]string{"", "end"}, notNames...) {
		puts(t, impl.Env{Names: []string{"v", name}, Vals: []int{1, 2}}, name, 9, impl.Env{Names: []string{"v", name}, Vals: []int{1, 9}})
	}
}

// What is put is got, where there is a Val of that name, and all else stays.
func TestWhatIsPutIsGot(t *testing.T) {
	for _, e := range allEnvs() {
		for at, name := range e.Names[:min(len(e.Names), 10)] {
			for _, n := range slices.Concat(valueEdges, notValues) {
				isPut := impl.ValOk(n) && slices.Index(e.Names, name) < len(e.Vals)
				got := impl.PutIn(e, name, n)
				if len(got.Names) != len(e.Names) || len(got.Vals) != len(e.Vals) {
					t.Fatalf("PutIn(%v, %q, %d) = %v", e, name, n, got)
				}
				if isPut {
					gets(t, got, name, n)
				} else {
					gets(t, got, name, impl.GetIn(e, name))
				}
				for i, other := range e.Names {
					if i != at && other != name {
						gets(t, got, other, impl.GetIn(e, other))
					}
				}
			}
		}
	}
}

func TestPutsOneAfterTheOther(t *testing.T) {
	e := impl.Env{Names: unlikeNames(8), Vals: make([]int, 8)}
	want := make([]int, 8)
	for step := range 200 {
		at, n := step*5%8, step*37%101-50
		e = impl.PutIn(e, e.Names[at], n)
		want[at] = n
		if !impl.EnvOk(e) || !sameEnv(e, impl.Env{Names: unlikeNames(8), Vals: want}) {
			t.Fatalf("after %d steps: %v, want %v", step+1, e, want)
		}
	}
}

func TestTogetherTheFirstCounts(t *testing.T) {
	together(t, envOf("v", 5), envOf("v w", 1, 2), envOf("v w", 5, 2))
	together(t, envOf("v w", 1, 2), envOf("v", 5), envOf("v w", 1, 2))
	together(t, envOf("x result", 1, 0), envOf("result v x u", 5, 6, 7, 8), envOf("x result v u", 1, 0, 6, 8))
	together(t, envOf("v", 0), envOf("v", 1), envOf("v", 0))
	together(t, envOf("b d", 1, 2), envOf("c a", 3, 4), envOf("b d c a", 1, 2, 3, 4))
	together(t, envOf("c a", 3, 4), envOf("b d", 1, 2), envOf("c a b d", 3, 4, 1, 2))
	together(t, envOf("v", 1), envOf("vv V", 2, 3), envOf("v vv V", 1, 2, 3))
}

func TestTogetherWithNothing(t *testing.T) {
	for _, e := range rightEnvs() {
		together(t, e, impl.Env{}, e)
		together(t, impl.Env{}, e, e)
		together(t, e, e, e)
	}
}

// Of each two right Envs, names stand for what they stand for in the first one that has them, in their order.
func TestTogetherOfEachTwo(t *testing.T) {
	for _, inA := range subsetsOf([]string{"v", "x", "result", "w"}) {
		for _, inB := range subsetsOf([]string{"w", "result", "u", "v"}) {
			a, b, want := impl.Env{}, impl.Env{}, impl.Env{}
			for i, name := range inA {
				a.Names, a.Vals = append(a.Names, name), append(a.Vals, 10+i)
				want.Names, want.Vals = append(want.Names, name), append(want.Vals, 10+i)
			}
			for i, name := range inB {
				b.Names, b.Vals = append(b.Names, name), append(b.Vals, 20+i)
				if !slices.Contains(inA, name) {
					want.Names, want.Vals = append(want.Names, name), append(want.Vals, 20+i)
				}
			}
			together(t, a, b, want)
			envOk(t, impl.Together(a, b), true)
		}
	}
}

func TestTogetherOfMoreThanMayBe(t *testing.T) {
	a, b := envOf("a b c d e f g h", 1, 2, 3, 4, 5, 6, 7, 8), envOf("h i a j", 11, 12, 13, 14)
	together(t, a, b, envOf("a b c d e f g h i j", 1, 2, 3, 4, 5, 6, 7, 8, 12, 14))
	envOk(t, impl.Together(a, b), false)
	together(t, a, envOf("h a", 11, 12), a)
	together(t, envOf("a b c d e f g", 1, 2, 3, 4, 5, 6, 7), envOf("g h", 8, 9), envOf("a b c d e f g h", 1, 2, 3, 4, 5, 6, 7, 9))
}

func TestTogetherOfWrongEnvs(t *testing.T) {
	together(t, envOf("v v", 1, 2), envOf("w v w", 3, 4, 5), envOf("v v w w", 1, 2, 3, 5))
	for _, n := range notValues {
		together(t, envOf("v", n), envOf("v w", 1, n), envOf("v w", n, n))
	}
	for _, name := range notNames {
		one := impl.Env{Names: []string{name}, Vals: []int{1}}
		together(t, one, impl.Env{Names: []string{name, "v"}, Vals: []int{2, 3}}, impl.Env{Names: []string{name, "v"}, Vals: []int{1, 3}})
		together(t, envOf("v", 3), one, impl.Env{Names: []string{"v", name}, Vals: []int{3, 1}})
	}
}

// bothOf is all of a, and of b each name that a has not, with its Val. A name of b without a Val is none of b's.
func bothOf(a, b impl.Env) impl.Env {
	both := impl.Env{Names: slices.Clone(a.Names), Vals: slices.Clone(a.Vals)}
	for i := range min(len(b.Names), len(b.Vals)) {
		if !slices.Contains(a.Names, b.Names[i]) {
			both.Names, both.Vals = append(both.Names, b.Names[i]), append(both.Vals, b.Vals[i])
		}
	}
	return both
}

func TestTogetherOfTooManyVals(t *testing.T) {
	together(t, envOf("v", 1, 2), envOf("w", 5), envOf("v w", 1, 2, 5))
	together(t, envOf("v", 1, 2, 3, 4), envOf("w u", 5, 6), envOf("v w u", 1, 2, 3, 4, 5, 6))
	together(t, impl.Env{Vals: []int{7}}, envOf("w", 5), envOf("w", 7, 5))
	together(t, impl.Env{Vals: []int{7}}, impl.Env{Vals: []int{8}}, impl.Env{Vals: []int{7}})
	together(t, envOf("v", 1), envOf("w", 5, 6), envOf("v w", 1, 5))
	together(t, envOf("v", 1), impl.Env{Vals: []int{8}}, envOf("v", 1))
	together(t, envOf("v", 1, 2), envOf("w", 5, 6), envOf("v w", 1, 2, 5))
}

func TestTogetherOfTooFewVals(t *testing.T) {
	together(t, envOf("v"), envOf("w", 5), envOf("v w", 5))
	together(t, envOf("v w v", 999999, 999998), envOf("v w n", 3, 1000, 1000), envOf("v w v n", 999999, 999998, 1000))
	together(t, envOf("v w", 1), envOf("w", 5), envOf("v w", 1))
	together(t, envOf("v", 1), envOf("w u", 5), envOf("v w", 1, 5))
	together(t, envOf("v", 1), envOf("w"), envOf("v", 1))
	together(t, envOf("v", 1), envOf("v w", 5), envOf("v", 1))
	together(t, envOf("v w", 1), envOf("u", 5, 6), envOf("v w u", 1, 5))
}

// All of the first one stays as it is, however many Names and Vals it has, and nothing comes in but of the second one.
func TestTogetherOfListsOfUnlikeLength(t *testing.T) {
	for _, a := range allEnvs() {
		together(t, a, impl.Env{}, a)
		together(t, a, a, a)
		for _, b := range allEnvs() {
			together(t, a, b, bothOf(a, b))
		}
	}
	inA, inB, vals := []string{"v", "w", "v", "u"}, []string{"u", "x", "v", "x"}, []int{1, 2, 3, 4, 5}
	for i := range 5 * 6 * 5 * 6 {
		a := impl.Env{Names: inA[:i%5], Vals: vals[:i/5%6]}
		b := impl.Env{Names: inB[:i/30%5], Vals: vals[5-i/150:]}
		together(t, a, b, bothOf(a, b))
	}
}

// envWithRoom has room behind both lists.
func envWithRoom(e impl.Env) impl.Env {
	return impl.Env{Names: withRoom(e.Names, "room"), Vals: withRoom(e.Vals, 77)}
}

// envIsLeft asks that an Env with room be as it was, and its room, too.
func envIsLeft(t *testing.T, what string, e, was impl.Env) {
	t.Helper()
	if !sameEnv(e, was) || behindEnd(e.Names) != "room" || behindEnd(e.Vals) != 77 {
		t.Errorf("%s changed %v to %v", what, was, e)
	}
}

func TestEnvsAreLeftAsTheyWere(t *testing.T) {
	for _, was := range allEnvs() {
		e := envWithRoom(was)
		impl.EnvOk(e)
		envIsLeft(t, "EnvOk", e, was)
		for _, name := range []string{"v", "w", "h", "result", "none", ""} {
			impl.GetIn(e, name)
			envIsLeft(t, "GetIn", e, was)
			for _, n := range []int{3, 1000001} {
				impl.PutIn(e, name, n)
				envIsLeft(t, "PutIn", e, was)
			}
		}
		for _, other := range allEnvs() {
			b := envWithRoom(other)
			impl.Together(e, b)
			envIsLeft(t, "Together", e, was)
			envIsLeft(t, "Together", b, other)
		}
	}
}

// spoil writes into all that an answer has, and the room behind it.
func spoil(e impl.Env) {
	for i := range e.Names[:cap(e.Names)] {
		e.Names[:cap(e.Names)][i] = "spoiled"
	}
	for i := range e.Vals[:cap(e.Vals)] {
		e.Vals[:cap(e.Vals)][i] = -9
	}
}

// newEnvEachTime asks that an answer share nothing with these arguments, nor with an answer told before.
func newEnvEachTime(t *testing.T, what string, ask func() impl.Env, given ...impl.Env) {
	t.Helper()
	was := fmt.Sprint(given)
	first, second := ask(), ask()
	want := fmt.Sprint(second)
	spoil(first)
	if fmt.Sprint(second) != want || fmt.Sprint(ask()) != want || fmt.Sprint(given) != was {
		t.Errorf("%s of %v shares its answer", what, given)
	}
}

func TestEnvsAreNewMemory(t *testing.T) {
	for _, e := range allEnvs() {
		given := envWithRoom(e)
		for _, name := range []string{"v", "none"} {
			for _, n := range []int{3, 5, 1000001} {
				newEnvEachTime(t, "PutIn", func() impl.Env { return impl.PutIn(given, name, n) }, given)
			}
		}
		for _, other := range rightEnvs() {
			b := envWithRoom(other)
			newEnvEachTime(t, "Together", func() impl.Env { return impl.Together(given, b) }, given, b)
			newEnvEachTime(t, "Together", func() impl.Env { return impl.Together(b, given) }, given, b)
		}
		envIsLeft(t, "an answer", given, e)
	}
}

func TestLongEnvs(t *testing.T) {
	const size = 200000
	a, b := impl.Env{}, impl.Env{}
	for i := range size {
		a.Names, a.Vals = append(a.Names, fmt.Sprint("a", i)), append(a.Vals, i)
		b.Names, b.Vals = append(b.Names, fmt.Sprint("b", i)), append(b.Vals, -i)
	}
	gets(t, a, fmt.Sprint("a", size-1), size-1)
	gets(t, impl.PutIn(a, fmt.Sprint("a", size-1), 3), fmt.Sprint("a", size-1), 3)
	envOk(t, a, false)
	both := impl.Together(a, b)
	if len(both.Names) != 2*size || len(both.Vals) != 2*size || both.Vals[2*size-1] != 1-size {
		t.Errorf("Together of two long ones has %d Names and %d Vals", len(both.Names), len(both.Vals))
	}
}
