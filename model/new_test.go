package model_test

import (
	"math"
	"reflect"
	"slices"
	"strings"
	"testing"

	"gneiss/api"
	"gneiss/model"
)

func TestP21_1NewRefusesThreads(t *testing.T) {
	p := programOf(t, source{})
	for _, threads := range []int{math.MinInt, -2, -1, 0, 1, 9, 10, 12, 1 << 32, 1<<32 + 2, math.MaxInt} {
		if m, e := model.New(p, threads, nil); m != nil || e != api.ErrModelForm {
			t.Errorf("New of %d threads = %v, %d; want nil, ErrModelForm", threads, m, e)
		}
	}
	for threads := 2; threads <= api.MaxThreads; threads++ {
		if m, e := model.New(p, threads, nil); m == nil || e != api.OK {
			t.Errorf("New of %d threads = %v, %d", threads, m, e)
		}
	}
}

func TestP21_1NewRefusesPrograms(t *testing.T) {
	for i, change := range []func(p *api.Program){
		func(p *api.Program) { *p = api.Program{} },
		func(p *api.Program) { p.Main = 12 },
		func(p *api.Program) { p.Main = 0 },
		func(p *api.Program) { p.Main = math.MaxInt },
		func(p *api.Program) { p.Classes[0].Super = 99 },
		func(p *api.Program) { p.Classes[2].Super = 14 },
		func(p *api.Program) { p.Classes[2].Methods = p.Classes[2].Methods[1:] },
		func(p *api.Program) { p.Classes[0].Statics[1].Name = "i" },
		func(p *api.Program) { p.Classes[1].Final = true },
		func(p *api.Program) { p.Classes[3].Final = true },
		func(p *api.Program) { p.Classes[0].Methods[0].Ret = api.TypeInt },
		func(p *api.Program) { p.Classes[0].Methods[0].Static = false },
		func(p *api.Program) { p.Classes[0].Methods[0].Code = nil },
		func(p *api.Program) { p.Classes[0].Methods[0].Code[0].Op = api.InsPop },
		func(p *api.Program) { p.Classes[0].Methods[0].Code[0].Op = 47 },
		func(p *api.Program) { p.Classes[0].Methods[0].Code[0].Op = -1 },
		func(p *api.Program) { p.Classes[0].Methods[0].Code[0].A = 1 },
		func(p *api.Program) { p.Classes[0].Methods[0].Locals = 1 << 60 },
		func(p *api.Program) { p.Classes[0].Methods[0].Locals = -1 },
		func(p *api.Program) { p.Classes[0].Methods[0].Stack = math.MinInt },
		func(p *api.Program) { p.Classes[0].Methods[0].Table = []api.Handler{{From: 0, To: 1, At: 0, Class: 1}} },
		func(p *api.Program) { p.Classes[0].Methods[0].Maps = []api.Map{{At: 1}} },
		func(p *api.Program) { p.Classes[2].Methods[0].Code[2].Op = api.InsGiveRef }, // no method of main's class
		func(p *api.Program) { p.Classes[7].Methods[0].Code[0].Op = api.InsThrow },
	} {
		p := programOf(t, source{})
		change(&p)
		for _, threads := range []int{2, 8, 1} {
			if m, e := model.New(p, threads, []int{1}); m != nil || e != api.ErrModelForm {
				t.Errorf("row %d: New = %v, %d; want nil, ErrModelForm", i, m, e)
			}
		}
	}
}

func TestP21_1TheBeginning(t *testing.T) {
	// Main is class 13, whose first method is not named so, and none of its instructions is done yet.
	p := api.Program{Main: 13, Classes: []api.Class{
		{Name: "A", Methods: []api.Method{{Name: "main", Static: true, Code: []api.Ins{{Op: api.InsReturn}}}}}, {Name: "B"},
		{Name: "C", Methods: []api.Method{{Name: "go", Static: true, Code: []api.Ins{{Op: api.InsCallStatic, A: 13, B: 1}, {Op: api.InsReturn}}},
			{Name: "main", Static: true, Code: []api.Ins{{Op: api.InsReturn}}}}},
	}}
	for threads := 2; threads <= api.MaxThreads; threads++ {
		m, e := model.New(p, threads, []int{7})
		if e != api.OK || m.Objects() != 9 || len(m.Out()) != 0 {
			t.Fatalf("%d: %d objects, %v", e, m.Objects(), m.Out())
		}
		wantThreads(t, m, api.Thread{State: api.ThreadReady, Frames: 1, Class: 13}, api.Thread{State: api.ThreadIdle})
		wantMay(t, m, 0, true, false)
		for _, thread := range []int{math.MinInt, -1, 1, 2, threads, math.MaxInt} {
			wantMay(t, m, thread, false, false)
		}
		for obj := range 12 {
			wantField(t, m, obj, 0, 0, false)
		}
		steps(t, m, 0, 1)
		wantThreads(t, m, api.Thread{Frames: 2, Class: 13, Method: 1}, api.Thread{State: api.ThreadIdle})
	}
}

// TestP21_1ObjectsOfTheBeginning: a Final class's can be queued, and these are none of such.
func TestP21_1ObjectsOfTheBeginning(t *testing.T) {
	m := machineOf(t, source{main: "0 1;new 18;pop;return"}, 2)
	steps(t, m, 0, 1)
	if m.Objects() != 10 {
		t.Fatalf("%d objects", m.Objects())
	}
	for obj := 1; obj <= 9; obj++ {
		if e := m.Queue(obj); e != api.ErrModelForm {
			t.Errorf("Queue(%d) = %d", obj, e)
		}
		if e := m.Clear(obj); e != api.OK {
			t.Errorf("Clear(%d) = %d", obj, e)
		}
	}
	if e := m.Queue(10); e != api.OK {
		t.Errorf("Queue(10) = %d", e)
	}
}

func TestP21_1WhatIsHandedInIsNotKeptNorChanged(t *testing.T) {
	s := source{main: caught(1, 3, "new 14;store 0;load 0;callface 12 0;print;read;print;load 0;int 3;null;"+
		"callvirtual 13 1;pop;callstatic 11 1;return"),
		more: "method loop 1 0 0 1;callstatic 11 1;return"}
	p, kept := programOf(t, s), programOf(t, s)
	inputs := []int{5, 6}
	m, e := model.New(p, 3, inputs)
	if e != api.OK || !reflect.DeepEqual(p, kept) || !slices.Equal(inputs, []int{5, 6}) {
		t.Fatalf("%d, %v, %v", e, p, inputs)
	}
	inputs[0] = 9
	for i := range p.Classes {
		c := &p.Classes[i]
		for j := range c.Methods {
			m := &c.Methods[j]
			clear(m.Code)
			clear(m.Table)
			clear(m.Maps)
			clear(m.Args)
		}
		clear(c.Fields)
		clear(c.Statics)
		clear(c.Methods)
	}
	clear(p.Classes)
	play(m, 300)
	wantOut(t, m, 4, 5, 3, 1008)
}

func TestP21_1NamesOfAnyBytesAreTaken(t *testing.T) {
	p := programOf(t, source{})
	p.Classes[0].Name, p.Classes[0].Methods[0].Name = "\xff \x00", ""
	if m, e := model.New(p, 2, nil); m == nil || e != api.OK {
		t.Errorf("New = %v, %d", m, e)
	}
}

// everything is a program that has something of all that a machine keeps: main makes objects, waits for its lock's
// monitor and prints what it reads; a worker keeps it waiting.
func everything() source {
	return source{
		main: "2 4;new 0;putstatic 11 1;new 13;store 0;load 0;int 5;putfield 13 0;load 0;makeweak;dup;putstatic 11 3;store 1;" +
			"new 18;pop;new 18;pop;new 17;start;getstatic 11 1;enter;getstatic 11 1;enter;" +
			"int 3;getstatic 11 1;wait;print;read;print;getstatic 11 1;leave;getstatic 11 1;leave;read;putstatic 11 0;" +
			"getstatic 11 0;print;" +
			"load 0;getfield 13 0;print;load 0;int 6;putfield 13 0;return",
		run:      "1 2;getstatic 11 1;enter;getstatic 11 1;notify;int 8;print;getstatic 11 1;leave;return",
		finalize: "1 2;int 9;print;return",
	}
}

// told is all that can be told of a machine.
func told(m *model.Machine) any {
	var all []any
	all = append(all, m.Threads(), m.Out(), m.Objects())
	for thread := range m.Threads() {
		may, makes := m.May(thread)
		all = append(all, may, makes)
	}
	for obj := range m.Objects() + 2 {
		for i := range 4 {
			word, has := m.Field(obj, i)
			all = append(all, word, has)
		}
	}
	return all
}

// moves is all rows of steps that are done here: main up to its wait, then the worker, the finalizer, main.
func moves(m *model.Machine) []func() api.Errno {
	step := func(thread int) func() api.Errno { return func() api.Errno { return m.Step(thread, false) } }
	all := slices.Repeat([]func() api.Errno{step(0)}, 25)
	all = append(all, func() api.Errno { return m.Queue(13) }, func() api.Errno { return m.Queue(14) })
	all = append(all, slices.Repeat([]func() api.Errno{step(2), step(1)}, 9)...)
	all = append(all, func() api.Errno { return m.Clear(11) })
	return append(all, slices.Repeat([]func() api.Errno{step(0)}, 40)...)
}

func TestP21_1ACopyGoesOnByItself(t *testing.T) {
	count := len(moves(nil))
	whole := machineOf(t, everything(), 3, 70, 71)
	var states []any
	var codes []api.Errno
	for _, move := range moves(whole) {
		states = append(states, told(whole))
		codes = append(codes, move())
	}
	wantOut(t, whole, 9, 8, 9, 3, 70, 71, 5)
	wantStates(t, whole, api.ThreadEnded, api.ThreadIdle, api.ThreadEnded)
	wantField(t, whole, 11, 0, 6, true)
	wantField(t, whole, 12, 0, 0, true)
	// From each moment on the copy does what is left, ahead of the machine and behind it.
	for begin := range count {
		m := machineOf(t, everything(), 3, 70, 71)
		for _, move := range moves(m)[:begin] {
			move()
		}
		early, late := m.Copy(), m.Copy()
		for _, x := range []*model.Machine{early, m, late} {
			for i, move := range moves(x)[begin:] {
				if !reflect.DeepEqual(told(x), states[begin+i]) {
					t.Fatalf("copied at %d: at %d %v; want %v", begin, begin+i, told(x), states[begin+i])
				}
				if e := move(); e != codes[begin+i] {
					t.Fatalf("copied at %d: at %d: %d; want %d", begin, begin+i, e, codes[begin+i])
				}
			}
		}
	}
}

// TestP21_1CopiesPrintApart: what one prints, the other one, which printed something else, has not printed over.
func TestP21_1CopiesPrintApart(t *testing.T) {
	s := source{
		main: "0 1;new 17;start;int 1;print;int 2;print;int 3;print;int 4;print;int 5;print;return",
		run:  "1 1;int 7;print;return",
	}
	m := machineOf(t, s, 3)
	steps(t, m, 0, 2)
	for printed := range 6 {
		first, second := m.Copy(), m.Copy()
		steps(t, first, 2, 2)
		play(second, 20)
		play(m.Copy(), 20)
		want := []int{1, 2, 3, 4, 5}[:min(printed, 5)]
		wantOut(t, m, want...)
		wantOut(t, first, append(slices.Clone(want), 7)...)
		if printed < 5 {
			steps(t, m, 0, 2)
			wantOut(t, first, append(slices.Clone(want), 7)...)
		}
	}
}

// TestP21_1CopiesClearApart: both make one more weak reference to an object that has some, by unlike numbers.
func TestP21_1CopiesClearApart(t *testing.T) {
	for weaks := range 6 {
		s := source{
			main: "1 1;new 0;store 0;new 17;start;" + strings.Repeat("load 0;makeweak;pop;", weaks+1) + "return",
			run:  "1 1;new 0;pop;return",
		}
		m := machineOf(t, s, 3)
		steps(t, m, 0, 4+3*weaks)
		last := m.Objects() + 1
		first := m.Copy()
		steps(t, first, 0, 2)
		steps(t, m, 2, 1)
		steps(t, m, 0, 2)
		for i, x := range []*model.Machine{first, m} {
			wantField(t, x, last+i, 0, 10, true)
			if e := x.Clear(10); e != api.OK {
				t.Fatalf("Clear(10) = %d", e)
			}
			wantField(t, x, last+i, 0, 0, true)
		}
	}
}

func TestR3Nil(t *testing.T) {
	var none *model.Machine
	if none.Copy() != nil || len(none.Threads()) != 0 || len(none.Out()) != 0 || none.Objects() != 0 {
		t.Error("a nil machine tells something")
	}
	for _, x := range []int{-1, 0, 1, 9} {
		wantMay(t, none, x, false, false)
		wantField(t, none, x, 0, 0, false)
		for _, e := range []api.Errno{none.Step(x, false), none.Step(x, true), none.Clear(x), none.Queue(x)} {
			if e != api.ErrNil {
				t.Errorf("%d; want ErrNil", e)
			}
		}
	}
}

func TestR1AMachineThatNewDidNotMake(t *testing.T) {
	m := (&model.Machine{}).Copy()
	if len(m.Threads()) != 0 || len(m.Out()) != 0 || m.Objects() != 0 {
		t.Error("it tells something")
	}
	for _, x := range []int{-1, 0, 1, 9} {
		wantMay(t, m, x, false, false)
		wantField(t, m, x, 0, 0, false)
		if m.Step(x, false) != api.ErrModelThread || m.Step(x, true) != api.ErrModelThread ||
			m.Clear(x) != api.ErrModelForm || m.Queue(x) != api.ErrModelForm {
			t.Errorf("%d: some other error", x)
		}
	}
}

func TestR4WhatIsAnsweredIsNewMemory(t *testing.T) {
	m := machineOf(t, source{main: "0 1;int 1;print;int 2;print;int 3;print;return"}, 2)
	steps(t, m, 0, 4)
	first, threads := m.Out(), m.Threads()
	first = append(first[:1], 9)
	threads[0].State, threads[1] = 5, api.Thread{}
	wantOut(t, m, 1, 2)
	wantStates(t, m, api.ThreadReady, api.ThreadIdle)
	second := m.Out()
	steps(t, m, 0, 2)
	second = append(second, 8)
	wantOut(t, m, 1, 2, 3)
	if !slices.Equal(first, []int{1, 9}) || !slices.Equal(second, []int{1, 2, 8}) {
		t.Errorf("%v, %v", first, second)
	}
}
