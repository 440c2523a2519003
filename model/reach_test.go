package model_test

import (
	"math"
	"slices"
	"testing"

	"gneiss/model"
)

func wantRoots(t *testing.T, m *model.Machine, want ...int) {
	t.Helper()
	if got := rising(m.Roots()); !slices.Equal(got, want) {
		t.Fatalf("Roots() = %v; want %v", got, want)
	}
}

func wantNamed(t *testing.T, m *model.Machine, obj int, want ...int) {
	t.Helper()
	all := make([]int, 1, 20)
	all[0] = 77
	if got := m.AppendNamed(all, obj); got[0] != 77 || !slices.Equal(got[1:], want) {
		t.Fatalf("AppendNamed([77], %d) = %v; want %v behind it", obj, got, want)
	}
}

// TestHelpersNone: of no machine, one that New did not make, and no object there is nothing.
func TestHelpersNone(t *testing.T) {
	for _, m := range []*model.Machine{nil, {}, machineOf(t, source{}, 2)} {
		for _, obj := range []int{math.MinInt, -1, 0, 10, 1<<32 + 1, math.MaxInt} {
			wantNamed(t, m, obj)
			if m.HasWeak(obj) || m.IsFinal(obj) || m.WasQueued(obj) {
				t.Errorf("there is an object %d", obj)
			}
		}
	}
	wantRoots(t, nil)
	wantRoots(t, &model.Machine{})
	wantRoots(t, machineOf(t, source{}, 2), 1, 2, 3, 4, 5, 6, 7, 8, 9)
}

func TestNamed(t *testing.T) {
	// 10 a square that names itself, 11 three refs, 12 ten times a number of an object, 13 a weak reference, 14 a file.
	s := source{main: "2 4;new 14;store 0;load 0;load 0;putfield 13 1;load 0;int 11;putfield 14 0;" +
		"int 3;newrefs;store 1;load 1;int 0;load 0;putref;load 1;int 2;load 0;putref;" +
		"int 1;newints;dup;int 0;int 10;putint;pop;load 0;makeweak;pop;new 18;pop;return"}
	m := machineOf(t, s, 2)
	play(m, 100)
	for i, want := range [][]int{{10}, {10, 10}, {}, {}, {}} {
		wantNamed(t, m, 10+i, want...)
	}
	if !m.HasWeak(10) || m.HasWeak(11) || m.IsFinal(10) || !m.IsFinal(14) || m.WasQueued(14) {
		t.Error("what is told of 10, 11 or 14 is wrong")
	}
	m.Clear(10)
	m.Queue(14)
	if m.HasWeak(10) || !m.IsFinal(14) || !m.WasQueued(14) {
		t.Error("what is told of 10 or 14 is wrong")
	}
	wantRoots(t, m, 1, 2, 3, 4, 5, 6, 7, 9, 14)
	m.Step(1, false)
	if !m.WasQueued(14) {
		t.Error("14 is to be queued once more")
	}
}

// TestRootsOfWhoWaited: what is awaited is a root only as long as it is.
func TestRootsOfWhoWaited(t *testing.T) {
	s := source{
		main: "1 2;new 17;store 0;load 0;putstatic 11 1;load 0;start;load 0;enter;load 0;wait;load 0;leave;" +
			"null;putstatic 11 1;null;store 0;goto 16;map 16 1 33",
		run: "1 2;load 0;enter;load 0;notify;load 0;leave;return",
	}
	m := machineOf(t, s, 3)
	steps(t, m, 0, 10) // main waits
	wantRoots(t, m, 1, 2, 3, 4, 5, 6, 7, 8, 9, 10)
	steps(t, m, 2, 7) // the worker has ended
	wantRoots(t, m, 1, 2, 3, 4, 5, 6, 7, 8, 9, 10)
	steps(t, m, 0, 7) // main goes round
	wantRoots(t, m, 1, 2, 3, 4, 5, 6, 7, 8, 9)
}

// TestRootsAreNewMemory: what is done to an answer is to be seen in no other one.
func TestRootsAreNewMemory(t *testing.T) {
	m := machineOf(t, source{main: "1 1;new 0;store 0;goto 2;map 2 1 16"}, 2)
	steps(t, m, 0, 2)
	first := m.Roots()
	second := m.Roots()
	clear(first)
	clear(first[:cap(first)])
	if !slices.Equal(rising(second), []int{1, 2, 3, 4, 5, 6, 7, 8, 9, 10}) {
		t.Errorf("%v", second)
	}
	wantRoots(t, m, 1, 2, 3, 4, 5, 6, 7, 8, 9, 10)
}
