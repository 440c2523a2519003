package model_test

import (
	"math"
	"slices"
	"testing"

	"gneiss/api"
	"gneiss/model"
)

func TestP21_3Field(t *testing.T) {
	s := source{main: "1 6;new 14;store 0;load 0;int -5;putfield 13 0;load 0;load 0;putfield 13 1;load 0;int 2147483647;" +
		"putfield 14 0;" +
		"int 3;newints;dup;int 1;int -2147483648;putint;dup;int 2;int 7;putint;int 2;newrefs;dup;int 1;load 0;putref;" +
		"makeweak;pop;new 9;pop;new 21;pop;" +
		"int 0;newints;pop;new 18;pop;int 1000;newints;dup;int 999;int 8;putint;pop;pop;return"}
	m := machineOf(t, s, 2)
	play(m, 100)
	if m.Threads()[0] != ended {
		t.Fatal(m.Threads())
	}
	for i, words := range [][]int{{-5, 10, 2147483647}, {0, -2147483648, 7}, {0, 10}, {12}, {}, {}, {}, {0},
		append(make([]int, 999), 8)} {
		obj := 10 + i
		for at, word := range words {
			wantField(t, m, obj, at, word, true)
		}
		for _, at := range []int{math.MinInt, -1, len(words), len(words) + 1, 1 << 32, math.MaxInt} {
			wantField(t, m, obj, at, 0, false)
		}
	}
	if m.Objects() != 18 {
		t.Errorf("%d objects; want 18", m.Objects())
	}
	for _, obj := range []int{math.MinInt, -10, -1, 0, 1, 9, 19, 20, 1<<32 + 10, math.MaxInt} {
		wantField(t, m, obj, 0, 0, false)
	}
}

func TestP21_3FieldsOfAClassStandBehindItsSupers(t *testing.T) {
	s := source{main: "1 2;new 14;store 0;load 0;int 1;putfield 14 0;return"}
	m := machineOf(t, s, 2)
	play(m, 20)
	for at, want := range []int{0, 0, 1} {
		wantField(t, m, 10, at, want, true)
	}
	wantField(t, m, 10, 3, 0, false)
}

func TestP21_3Clear(t *testing.T) {
	// Two weak references to 10, one to 11, one to the weak reference 12; then, behind the clearing, one more to 10.
	s := source{main: "2 2;new 0;store 0;new 0;store 1;load 0;makeweak;putstatic 11 3;load 0;makeweak;pop;load 1;makeweak;" +
		"pop;getstatic 11 3;makeweak;pop;" +
		"getstatic 11 3;deref;is 0;print;load 0;makeweak;dup;putstatic 11 3;deref;is 0;print;return"}
	m := machineOf(t, s, 2)
	steps(t, m, 0, 16)
	wantWeaks := func(referents ...int) {
		t.Helper()
		for i, want := range referents {
			wantField(t, m, 12+i, 0, want, true)
		}
		wantField(t, m, 12+len(referents), 0, 0, false)
	}
	wantWeaks(10, 10, 11, 12)
	for _, obj := range []int{math.MinInt, -1, 0, 16, 17, 1<<32 + 10, math.MaxInt} {
		if e := m.Clear(obj); e != api.ErrModelForm {
			t.Errorf("Clear(%d) = %d", obj, e)
		}
	}
	for _, obj := range []int{1, 8, 13, 15} {
		if e := m.Clear(obj); e != api.OK {
			t.Errorf("Clear(%d) = %d", obj, e)
		}
		wantWeaks(10, 10, 11, 12)
	}
	for range 2 {
		if e := m.Clear(10); e != api.OK {
			t.Errorf("Clear(10) = %d", e)
		}
		wantWeaks(0, 0, 11, 12)
	}
	if e := m.Clear(12); e != api.OK {
		t.Errorf("Clear(12) = %d", e)
	}
	wantWeaks(0, 0, 11, 0)
	steps(t, m, 0, 4)
	wantOut(t, m, 0)
	play(m, 20)
	wantOut(t, m, 0, 1)
	wantWeaks(0, 0, 11, 0, 10)
	m.Clear(10)
	wantWeaks(0, 0, 11, 0, 0)
	m.Clear(11)
	wantWeaks(0, 0, 0, 0, 0)
}

func TestP21_2Deref(t *testing.T) {
	wantShown(t, []shown{
		{0, 2, "null;makeweak;deref;pop;return", "", nil, out(1002)},
		{0, 2, "getstatic 11 3;deref;pop;return", "", nil, out(1002)},
		{1, 2, "new 14;store 0;load 0;makeweak;deref;load 0;ifsame 8;return;int 1;print;return", "map 8 1 30", nil, out(1)},
		{0, 2, "int 3;newints;makeweak;deref;is 0;print;new 0;makeweak;makeweak;deref;is 10;print;return", "", nil, out(1, 1)},
	})
}

func TestP21_3Queue(t *testing.T) {
	s := source{main: "0 1;new 18;pop;new 19;pop;new 0;pop;new 17;pop;int 1;newrefs;pop;new 18;makeweak;pop;return"}
	m := machineOf(t, s, 2)
	steps(t, m, 0, 14)
	// 10 and 15 are of the Final class, 11 of one below it; the others are not.
	for _, obj := range []int{math.MinInt, -1, 0, 1, 8, 9, 12, 13, 14, 16, 17, 1<<32 + 10, math.MaxInt} {
		if e := m.Queue(obj); e != api.ErrModelForm {
			t.Errorf("Queue(%d) = %d", obj, e)
		}
	}
	wantMay(t, m, 1, false, false)
	for _, obj := range []int{15, 11, 10} {
		if e := m.Queue(obj); e != api.OK {
			t.Errorf("Queue(%d) = %d", obj, e)
		}
		for range 2 {
			if e := m.Queue(obj); e != api.ErrModelForm {
				t.Errorf("Queue(%d) again = %d", obj, e)
			}
		}
	}
	for range 3 {
		wantMay(t, m, 1, true, false)
		steps(t, m, 1, 2)
		wantThreads(t, m, mainAt(api.ThreadReady, 14), idle)
	}
	wantMay(t, m, 1, false, false)
	for _, obj := range []int{10, 11, 15} {
		if e := m.Queue(obj); e != api.ErrModelForm {
			t.Errorf("Queue(%d) behind its finalize = %d", obj, e)
		}
	}
}

// TestP21_3MainsClassMayBeFinal, and what is above a Final class is not.
func TestP21_3MainsClassMayBeFinal(t *testing.T) {
	p := api.Program{Main: 11, Classes: []api.Class{
		{Name: "M", Final: true, Super: 12, Methods: []api.Method{
			{Name: "main", Static: true, Stack: 2, Code: []api.Ins{{Op: api.InsNew, A: 12}, {Op: api.InsNew, A: 11},
				{Op: api.InsReturn}}}}},
		{Name: "Up", Methods: []api.Method{{Name: "finalize", Locals: 1, Code: []api.Ins{{Op: api.InsReturn}}}}},
	}}
	m, e := model.New(p, 2, nil)
	if e != api.OK {
		t.Fatal(e)
	}
	steps(t, m, 0, 2)
	if e := m.Queue(10); e != api.ErrModelForm {
		t.Errorf("Queue(10) = %d", e)
	}
	if e := m.Queue(11); e != api.OK {
		t.Errorf("Queue(11) = %d", e)
	}
	steps(t, m, 1, 1)
	wantThreads(t, m, mainAt(api.ThreadReady, 2), api.Thread{Frames: 1, Class: 12})
}

func TestP21_3ThreadsTellTheTopFrame(t *testing.T) {
	s := source{main: "0 3;nop;new 14;int 1;null;callvirtual 13 1;pop;callstatic 11 1;return", more: "method in 1 0 0 1;" +
		"new 14;callvirtual 14 0;print;return"}
	m := machineOf(t, s, 2)
	for i, want := range []api.Thread{
		{Frames: 1, Class: 11}, {Frames: 1, Class: 11, At: 1}, {Frames: 1, Class: 11, At: 2},
		{Frames: 1, Class: 11, At: 3}, {Frames: 1, Class: 11, At: 4},
		{Frames: 2, Class: 13, Method: 1}, {Frames: 2, Class: 13, Method: 1, At: 1},
		{Frames: 2, Class: 13, Method: 1, At: 2}, {Frames: 2, Class: 13, Method: 1, At: 3},
		{Frames: 1, Class: 11, At: 5}, {Frames: 1, Class: 11, At: 6},
		{Frames: 2, Class: 11, Method: 1}, {Frames: 2, Class: 11, Method: 1, At: 1},
		{Frames: 3, Class: 14}, {Frames: 3, Class: 14, At: 1},
		{Frames: 2, Class: 11, Method: 1, At: 2}, {Frames: 2, Class: 11, Method: 1, At: 3}, {Frames: 1, Class: 11, At: 7},
	} {
		if got := m.Threads()[0]; got != want {
			t.Fatalf("%d: %+v; want %+v", i, got, want)
		}
		steps(t, m, 0, 1)
	}
	wantThreads(t, m, ended, idle)
	wantOut(t, m, 1, 4)
}

// TestR1GreatMachines ends in a time that what is asked explains: great arrays, copies, and clearings among many objects.
func TestR1GreatMachines(t *testing.T) {
	m := machineOf(t, source{main: "0 2;int 1000;newints;pop;new 18;makeweak;pop;goto 0;map 0 0"}, 2)
	for range 20000 {
		wantStep(t, m, 0, false, api.OK)
	}
	other := m.Copy()
	for obj := range m.Objects() {
		m.Clear(obj)
		m.Queue(obj)
	}
	for range 2 * m.Objects() / 3 {
		m.Step(1, false)
	}
	if got, want := m.Objects(), 9+20000/7*3; got < want || got > want+3 || other.Objects() != got {
		t.Errorf("%d objects; want about %d", got, want)
	}
	if e := other.Queue(11); e != api.OK {
		t.Errorf("%d", e)
	}
}

// TestR5CopiesInGoroutines: a machine and its copies, which were taken apart, can go on at one time.
func TestR5CopiesInGoroutines(t *testing.T) {
	r := random(21)
	p := written(t, &r)
	first, e := model.New(p, 4, []int{1, 2})
	if e != api.OK {
		t.Fatal(e)
	}
	all := []*model.Machine{first}
	for range 7 {
		all = append(all, first.Copy())
	}
	done := make(chan []int)
	for _, m := range all {
		go func() {
			for k := range 2000 {
				m.Step(k%4, k%7 == 0)
				m.Clear(k % 50)
			}
			done <- m.Out()
		}()
	}
	want := <-done
	for range all[1:] {
		if got := <-done; !slices.Equal(got, want) {
			t.Errorf("%v; want %v", got, want)
		}
	}
}
