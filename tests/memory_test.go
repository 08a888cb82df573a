package tests

import (
	"fmt"
	"reflect"
	"slices"
	"testing"
)

// eachPart calls for a value and all that is in it, list by list and field by field.
func eachPart(v reflect.Value, call func(part reflect.Value)) {
	call(v)
	switch v.Kind() {
	case reflect.Slice:
		for i := range v.Len() {
			eachPart(v.Index(i), call)
		}
	case reflect.Struct:
		for i := range v.NumField() {
			eachPart(v.Field(i), call)
		}
	}
}

// fillRoom makes of a value what stands in room behind a list.
func fillRoom(v reflect.Value) {
	eachPart(v, func(part reflect.Value) {
		switch part.Kind() {
		case reflect.Int:
			part.SetInt(77)
		case reflect.String:
			part.SetString("room")
		case reflect.Bool:
			part.SetBool(true)
		}
	})
}

// renewed makes each list in a value again, with so much room behind it.
func renewed(v reflect.Value, room int) {
	eachPart(v, func(part reflect.Value) {
		if part.Kind() != reflect.Slice || part.IsNil() && room == 0 {
			return
		}
		size := part.Len()
		again := reflect.MakeSlice(part.Type(), size+room, size+room)
		reflect.Copy(again, part)
		for i := range room {
			fillRoom(again.Index(size + i))
		}
		part.Set(again.Slice(0, size))
	})
}

// deepCopy is the same in memory of its own.
func deepCopy[T any](value T) T {
	renewed(reflect.ValueOf(&value).Elem(), 0)
	return value
}

// withRooms is the same in memory of its own, with room behind each list.
func withRooms[T any](value T) T {
	renewed(reflect.ValueOf(&value).Elem(), 2)
	return value
}

// toldWithRoom tells a value and what stands behind its lists.
func toldWithRoom(value any) string {
	text := fmt.Sprintf("%+v", value)
	eachPart(reflect.ValueOf(value), func(part reflect.Value) {
		if part.Kind() == reflect.Slice {
			text += fmt.Sprintf(" | %+v", part.Slice3(part.Len(), part.Cap(), part.Cap()))
		}
	})
	return text
}

// span is the memory of a list, with the room behind it.
type span struct{ from, to uintptr }

// spansOf are those of all lists in a value that have some memory.
func spansOf(value any) []span {
	spans := []span{}
	eachPart(reflect.ValueOf(value), func(part reflect.Value) {
		if part.Kind() == reflect.Slice && part.Cap() > 0 {
			from := part.Pointer()
			spans = append(spans, span{from, from + uintptr(part.Cap())*part.Type().Elem().Size()})
		}
	})
	return spans
}

func (s span) meets(other span) bool { return s.from < other.to && other.from < s.to }

// isNewMemory asks that no two lists of an answer share memory, and none shares any with what was given.
func isNewMemory(t *testing.T, what string, answer any, given ...any) {
	t.Helper()
	spans, others := spansOf(answer), []span{}
	for _, argument := range given {
		others = append(others, spansOf(argument)...)
	}
	for i, one := range spans {
		if slices.ContainsFunc(spans[:i], one.meets) {
			t.Fatalf("%s: two lists of the answer share memory", what)
		}
		if slices.ContainsFunc(others, one.meets) {
			t.Fatalf("%s: the answer shares memory with what was given", what)
		}
	}
}

func TestTheMemoryOfLists(t *testing.T) {
	type pair struct{ A, B [][]int }
	memory := list(1, 2, 3, 4)
	p := pair{A: [][]int{memory[:2:2]}, B: [][]int{memory[2:]}}
	if len(spansOf(p)) != 4 || spansOf(p)[1].meets(spansOf(p)[3]) || !spansOf(p)[1].meets(spansOf(memory)[0]) {
		t.Error("spans are not those of the lists")
	}
	q := withRooms(p)
	if toldWithRoom(q) == toldWithRoom(p) || fmt.Sprint(q) != fmt.Sprint(p) || behindEnd(q.A[0]) != 77 || fmt.Sprint(deepCopy(q)) != fmt.Sprint(p) {
		t.Errorf("with room: %s", toldWithRoom(q))
	}
	was := toldWithRoom(q)
	q.A[0][:3][2] = 5
	if toldWithRoom(q) == was || memory[2] != 3 {
		t.Error("room that is written into is not told")
	}
}
