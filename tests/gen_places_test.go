package tests

import (
	"math"
	"slices"
	"testing"

	"loop.example/g00290/impl"
)

// atIs asks for one of the places of memory.
func atIs(t *testing.T, what string, got, want int) {
	t.Helper()
	if got != want {
		t.Errorf("%s is %d; want %d", what, got, want)
	}
}

func placesAre(t *testing.T, what string, got impl.Places, want impl.Places) {
	t.Helper()
	if !slices.Equal(got.Names, want.Names) || !slices.Equal(got.Ats, want.Ats) {
		t.Errorf("%s are %s; want %s", what, placesTold(got), placesTold(want))
	}
}

// callsAt asks where a process has what it calls with, and what comes out.
func callsAt(t *testing.T, p impl.Program, process, want int) {
	t.Helper()
	atIs(t, "ArgAt", impl.ArgAt(p, process), want)
	atIs(t, "ResultAt", impl.ResultAt(p, process), want+1)
}

// isNowhere asks that a process have no place.
func isNowhere(t *testing.T, p impl.Program, process int) {
	t.Helper()
	atIs(t, "ArgAt of none", impl.ArgAt(p, process), -1)
	atIs(t, "ResultAt of none", impl.ResultAt(p, process), -1)
	for _, i := range list(-1, 0, 1, 2, 3, math.MaxInt, math.MinInt) {
		atIs(t, "VarAt of none", impl.VarAt(p, process, i), -1)
	}
	placesAre(t, "OwnPlaces of none", impl.OwnPlaces(p, process), impl.Places{})
	for m := -1; m < 3; m++ {
		placesAre(t, "EntryPlaces of no process", impl.EntryPlaces(p, process, m, 0), impl.Places{})
	}
}

func TestPlacesOfTheYard(t *testing.T) {
	p := yardWith(t, "skip")
	for i, want := range list(1, 2) {
		atIs(t, "SharedAt of m", impl.SharedAt(p, 0, i), want)
	}
	atIs(t, "SharedAt of n", impl.SharedAt(p, 1, 0), 3)
	atIs(t, "VarAt of a", impl.VarAt(p, 0, 0), 4)
	atIs(t, "VarAt behind those of a", impl.VarAt(p, 0, 1), 5)
	callsAt(t, p, 0, 5)
	for i, want := range list(7, 8, 9) {
		atIs(t, "VarAt of b", impl.VarAt(p, 1, i), want)
	}
	callsAt(t, p, 1, 9)
	placesAre(t, "OwnPlaces of a", impl.OwnPlaces(p, 0), placesOf("v", 4))
	placesAre(t, "OwnPlaces of b", impl.OwnPlaces(p, 1), placesOf("v w", 7, 8))
	placesAre(t, "EntryPlaces of e", impl.EntryPlaces(p, 0, 0, 0), placesOf("x result u v", 5, 6, 1, 2))
	placesAre(t, "EntryPlaces of f", impl.EntryPlaces(p, 1, 0, 1), placesOf("x result u v", 9, 10, 1, 2))
	placesAre(t, "EntryPlaces of n's f", impl.EntryPlaces(p, 0, 1, 0), placesOf("u result c", 5, 6, 3))
	placesAre(t, "EntryPlaces of g, whose Param is called as a Var", impl.EntryPlaces(p, 1, 1, 1), placesOf("c result c", 9, 10, 3))
	atIs(t, "the place of that Param", impl.PlaceIn(impl.EntryPlaces(p, 1, 1, 1), "c"), 9)
}

func TestPlacesOfMemoryThatAreNone(t *testing.T) {
	p := yardWith(t, "skip")
	for _, i := range list(-1, -2, 2, 3, 4, 100, math.MaxInt, math.MinInt) {
		atIs(t, "SharedAt beyond m's", impl.SharedAt(p, 0, i), -1)
		placesAre(t, "EntryPlaces of no entry", impl.EntryPlaces(p, 0, 0, i), impl.Places{})
		placesAre(t, "EntryPlaces of no monitor", impl.EntryPlaces(p, 0, i, 0), impl.Places{})
		for j := -1; j < 3; j++ {
			atIs(t, "SharedAt of no monitor", impl.SharedAt(p, i, j), -1)
		}
		isNowhere(t, p, i)
	}
	atIs(t, "SharedAt beyond n's", impl.SharedAt(p, 1, 1), -1)
	// VarAt tells the place behind the last Var, and none beyond it.
	for _, i := range list(-1, 2, 3, math.MaxInt, math.MinInt) {
		atIs(t, "VarAt beyond a's", impl.VarAt(p, 0, i), -1)
	}
	for _, i := range list(-1, 3, 4, math.MaxInt, math.MinInt) {
		atIs(t, "VarAt beyond b's", impl.VarAt(p, 1, i), -1)
	}
	for _, p := range []impl.Program{{}, {Monitors: p.Monitors}, {Nodes: p.Nodes}} {
		for _, process := range list(-1, 0, 1, math.MaxInt, math.MinInt) {
			isNowhere(t, p, process)
		}
	}
	// What stands in the room behind a list is none of it.
	rooms := withRooms(p)
	isNowhere(t, rooms, 2)
	atIs(t, "SharedAt in the room", impl.SharedAt(rooms, 0, 2), -1)
	atIs(t, "SharedAt in the room", impl.SharedAt(rooms, 2, 0), -1)
	placesAre(t, "EntryPlaces in the room", impl.EntryPlaces(rooms, 0, 0, 2), impl.Places{})
}

func TestPlacesWithoutVars(t *testing.T) {
	p := readFrom(t, "process a ; begin skip end ; .")
	atIs(t, "VarAt", impl.VarAt(p, 0, 0), 1)
	atIs(t, "VarAt", impl.VarAt(p, 0, 1), -1)
	callsAt(t, p, 0, 1)
	placesAre(t, "OwnPlaces", impl.OwnPlaces(p, 0), impl.Places{})
	atIs(t, "SharedAt", impl.SharedAt(p, 0, 0), -1)
	p = readFrom(t, "monitor m ; entry e ( x ) begin skip end ; end ; monitor n ; var v ; entry e ( x ) begin skip end ; end ; monitor o ; entry e ( x ) begin skip end ; end ; process a ; begin skip end ; process b ; var v ; begin skip end ; process c ; begin skip end ; .")
	for m, want := range list(-1, 1, -1) {
		atIs(t, "SharedAt", impl.SharedAt(p, m, 0), want)
	}
	for process, want := range list(2, 5, 7) {
		callsAt(t, p, process, want)
	}
	placesAre(t, "EntryPlaces without Vars", impl.EntryPlaces(p, 1, 0, 0), placesOf("x result", 5, 6))
	placesAre(t, "EntryPlaces without Vars", impl.EntryPlaces(p, 2, 2, 0), placesOf("x result", 7, 8))
	placesAre(t, "EntryPlaces", impl.EntryPlaces(p, 2, 1, 0), placesOf("x result v", 7, 8, 1))
	// Without processes there are the places of monitors yet.
	p.Processes = nil
	atIs(t, "SharedAt without processes", impl.SharedAt(p, 1, 0), 1)
	// An entry without a name has its places, and a monitor may have no entries.
	p = impl.Program{Monitors: []impl.Monitor{{Entries: []impl.Entry{{}}}, {Vars: []string{"", "begin"}}}, Processes: []impl.Process{{Vars: []string{"result", ""}}}}
	placesAre(t, "EntryPlaces without names", impl.EntryPlaces(p, 0, 0, 0), impl.Places{Names: []string{"", "result"}, Ats: list(5, 6)})
	placesAre(t, "EntryPlaces without entries", impl.EntryPlaces(p, 0, 1, 0), impl.Places{})
	placesAre(t, "OwnPlaces of any names", impl.OwnPlaces(p, 0), impl.Places{Names: []string{"result", ""}, Ats: list(3, 4)})
}

// allPlaces are all places of memory that a program has names for, in the order in which they should stand.
func allPlaces(p impl.Program) []int {
	all := []int{}
	for m := range p.Monitors {
		for i := range p.Monitors[m].Vars {
			all = append(all, impl.SharedAt(p, m, i))
		}
	}
	for process := range p.Processes {
		for i := range p.Processes[process].Vars {
			all = append(all, impl.VarAt(p, process, i))
		}
		all = append(all, impl.ArgAt(p, process), impl.ResultAt(p, process))
	}
	return all
}

// All of them are unlike, one behind the other from 1 on, however many there are of each.
func TestPlacesOneBehindTheOther(t *testing.T) {
	programs := append(askedPrograms(t), yardWith(t, "skip"), impl.Program{})
	for seed := range 300 {
		s, p := sown{turn: seed}, impl.Program{}
		for range s.pick(5) {
			p.Monitors = append(p.Monitors, impl.Monitor{Vars: unlikeNames(s.pick(5)), Entries: make([]impl.Entry, s.pick(3))})
		}
		for range s.pick(6) {
			p.Processes = append(p.Processes, impl.Process{Vars: unlikeNames(s.pick(5))})
		}
		programs = append(programs, p)
	}
	for _, p := range programs {
		all := allPlaces(p)
		for i, at := range all {
			if at != i+1 {
				t.Fatalf("place %d is at %d of %.2000s: %v", i+1, at, told(p), all)
			}
		}
		for process, of := range p.Processes {
			x := impl.OwnPlaces(p, process)
			atIs(t, "VarAt behind the last", impl.VarAt(p, process, len(of.Vars)), impl.ArgAt(p, process))
			for i, name := range of.Vars {
				atIs(t, "a name of its own", impl.PlaceIn(x, name), impl.VarAt(p, process, slices.Index(of.Vars, name)))
				atIs(t, "a place of its own", x.Ats[i], impl.VarAt(p, process, i))
			}
			for m, monitor := range p.Monitors {
				for e := range monitor.Entries {
					inside := impl.EntryPlaces(p, process, m, e)
					if len(inside.Names) != 2+len(monitor.Vars) || inside.Ats[0] != impl.ArgAt(p, process) || inside.Ats[1] != impl.ResultAt(p, process) {
						t.Errorf("inside are %s", placesTold(inside))
					}
					for i := range monitor.Vars {
						atIs(t, "a shared place", inside.Ats[2+i], impl.SharedAt(p, m, i))
					}
				}
			}
		}
	}
}

func TestPlacesAreNewMemory(t *testing.T) {
	for _, fresh := range append(askedPrograms(t), yardWith(t, "skip"), impl.Program{}) {
		p := withRooms(fresh)
		was := toldWithRoom(p)
		for process := -1; process <= len(p.Processes); process++ {
			own := impl.OwnPlaces(p, process)
			placesAre(t, "OwnPlaces with room", own, impl.OwnPlaces(fresh, process))
			isNewMemory(t, "OwnPlaces", own, p, impl.OwnPlaces(p, process))
			for m := -1; m <= len(p.Monitors); m++ {
				for e := -1; e < 4; e++ {
					inside := impl.EntryPlaces(p, process, m, e)
					placesAre(t, "EntryPlaces with room", inside, impl.EntryPlaces(fresh, process, m, e))
					isNewMemory(t, "EntryPlaces", inside, p, own, impl.EntryPlaces(p, process, m, e))
				}
			}
			impl.ArgAt(p, process)
			impl.VarAt(p, process, 0)
		}
		if toldWithRoom(p) != was {
			t.Errorf("a program was changed from %.1000s to %.1000s", was, toldWithRoom(p))
		}
	}
}

func TestPlacesOfLongPrograms(t *testing.T) {
	p := impl.Program{Monitors: make([]impl.Monitor, 50000), Processes: make([]impl.Process, 50000)}
	p.Monitors[49999].Vars = slices.Repeat([]string{"v"}, 50000)
	p.Processes[49999].Vars = slices.Repeat([]string{"v"}, 50000)
	atIs(t, "SharedAt", impl.SharedAt(p, 49999, 49999), 50000)
	callsAt(t, p, 49998, 50001+2*49998)
	atIs(t, "VarAt", impl.VarAt(p, 49999, 49999), 50001+2*49999+49999)
	callsAt(t, p, 49999, 50001+2*49999+50000)
	atIs(t, "how many places of its own", len(impl.OwnPlaces(impl.Program{Processes: []impl.Process{{Vars: unlikeNames(3000)}}}, 0).Ats), 3000)
}
