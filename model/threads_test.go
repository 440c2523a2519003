package model_test

import (
	"strconv"
	"strings"
	"testing"

	"gneiss/api"
	"gneiss/model"
)

var (
	idle  = api.Thread{State: api.ThreadIdle}
	ended = api.Thread{State: api.ThreadEnded}
)

// mainAt is main in its first frame.
func mainAt(state int, at int) api.Thread {
	return api.Thread{State: state, Frames: 1, Class: theMain, At: at}
}

// runAt is a worker in its run, in its first frame.
func runAt(state int, at int) api.Thread {
	return api.Thread{State: state, Frames: 1, Class: theWorker, At: at}
}

func wantStep(t *testing.T, m *model.Machine, thread int, fail bool, want api.Errno) {
	t.Helper()
	if e := m.Step(thread, fail); e != want {
		t.Fatalf("Step(%d, %v) = %d; want %d", thread, fail, e, want)
	}
}

func TestP21_2MayAndStepOfWhatIsMade(t *testing.T) {
	for _, x := range []struct {
		push, ins string
		fault     int // by fail
	}{
		{"nop", "new 13", 1008}, {"int 3", "newints", 1008}, {"int 3", "newrefs", 1008}, {"int 0", "newints", 1008},
		{"int 1000", "newrefs", 1008},
		{"new 0", "makeweak", 1008}, {"null", "makeweak", 1002}, {"int -1", "newints", 1004}, {"int 1001", "newints", 1004},
		{"int -1", "newrefs", 1004}, {"int 1001", "newrefs", 1004},
	} {
		m := machineOf(t, source{main: caught(0, 2, "int 5;"+x.push+";"+x.ins+";pop;print;return")}, 2)
		steps(t, m, 0, 2)
		wantMay(t, m, 0, true, true)
		objects := m.Objects()
		other := m.Copy()
		wantStep(t, m, 0, true, api.OK)
		if m.Objects() != objects {
			t.Errorf("%s: %d objects; want %d", x.ins, m.Objects(), objects)
		}
		play(m, 10)
		wantOut(t, m, x.fault)
		wantStates(t, m, api.ThreadEnded, api.ThreadIdle)
		wantStep(t, other, 0, false, api.OK)
		play(other, 10)
		if x.fault != 1008 {
			wantOut(t, other, x.fault)
			continue
		}
		wantOut(t, other, 5)
		if other.Objects() != objects+1 {
			t.Errorf("%s: %d objects; want %d", x.ins, other.Objects(), objects+1)
		}
	}
}

// TestP21_2FailOfWhatMakesNothing: it is refused, and no part of it is done.
func TestP21_2FailOfWhatMakesNothing(t *testing.T) {
	for _, lines := range []string{
		"nop;return", "int 1;print;return", "null;throw", "getstatic 11 0;pop;return", "callstatic 11 1;return",
		"new 0;dup;enter;notify;return", "read;pop;return", "collect;return", "new 17;start;return", "new 17;join;return",
		"new 0;enter;return", "new 0;dup;swap;pop;is 0;pop;return", "new 0;cast 0;pop;return",
		"getstatic 11 3;deref;pop;return", "int 1;newints;length;pop;return",
	} {
		m := machineOf(t, source{main: caught(0, 3, lines), more: "method own 1 0 0 0;return"}, 3)
		for m.Threads()[0].State == api.ThreadReady {
			if _, makes := m.May(0); !makes {
				before := m.Copy()
				wantStep(t, m, 0, true, api.ErrModelForm)
				wantThreads(t, m, before.Threads()...)
				wantOut(t, m, before.Out()...)
			}
			steps(t, m, 0, 1)
		}
		if state := m.Threads()[0].State; state != api.ThreadEnded {
			t.Errorf("%s: %d", lines, state)
		}
	}
}

func TestP21_2EnterOfAnothers(t *testing.T) {
	s := source{
		main: "0 1;new 0;putstatic 11 1;new 17;start;getstatic 11 1;enter;getstatic 11 1;enter;getstatic 11 1;leave;" +
			"getstatic 11 1;leave;return",
		run: "1 2;int 4;getstatic 11 1;enter;print;getstatic 11 1;enter;return",
	}
	m := machineOf(t, s, 3)
	steps(t, m, 0, 8) // 2 deep
	steps(t, m, 2, 2)
	wantMay(t, m, 2, true, false)
	steps(t, m, 2, 1)
	wantThreads(t, m, mainAt(api.ThreadReady, 8), idle, runAt(api.ThreadEntering, 2))
	for range 4 {
		wantMay(t, m, 2, false, false)
		wantStep(t, m, 2, false, api.ErrModelThread)
		wantStep(t, m, 2, true, api.ErrModelThread)
		wantThreads(t, m, m.Copy().Threads()...)
		if m.Threads()[0].At < 11 {
			steps(t, m, 0, 1)
		}
	}
	wantMay(t, m, 2, false, false)
	steps(t, m, 0, 1) // it is free now
	wantThreads(t, m, mainAt(api.ThreadReady, 12), idle, runAt(api.ThreadEntering, 2))
	wantMay(t, m, 2, true, false)
	wantStep(t, m, 2, true, api.ErrModelForm)
	steps(t, m, 2, 1)
	wantThreads(t, m, mainAt(api.ThreadReady, 12), idle, runAt(api.ThreadReady, 3))
	steps(t, m, 2, 3)
	wantOut(t, m, 4)
	wantThreads(t, m, mainAt(api.ThreadReady, 12), idle, runAt(api.ThreadReady, 6))
}

func TestP21_2MonitorsFaults(t *testing.T) {
	lock := "new 0;store 0;"
	wantShown(t, []shown{
		{0, 1, "null;enter;return", "", nil, out(1002)},
		{0, 1, "null;leave;return", "", nil, out(1002)},
		{0, 1, "null;wait;return", "", nil, out(1002)},
		{0, 1, "null;notify;return", "", nil, out(1002)},
		{0, 1, "null;notifyall;return", "", nil, out(1002)},
		{0, 1, "new 0;leave;return", "", nil, out(1007)},
		{0, 1, "new 0;wait;return", "", nil, out(1007)},
		{0, 1, "new 0;notify;return", "", nil, out(1007)},
		{0, 1, "new 0;notifyall;return", "", nil, out(1007)},
		{1, 1, lock + "load 0;enter;load 0;leave;load 0;leave;return", "", nil, out(1007)},
		{1, 1, lock + "load 0;enter;load 0;enter;load 0;leave;load 0;leave;int 1;print;load 0;notify;" +
			"return", "", nil, out(1, 1007)},
		{0, 2, "int 3;int 2;newints;enter;print;return", "", nil, out(3)},
		{0, 3, "int 3;new 0;makeweak;dup;enter;notify;print;return", "", nil, out(3)},
		{0, 3, "int 3;new 0;dup;enter;notifyall;print;return", "", nil, out(3)},
		// 1000 deep it can't be entered, and is left 1000 times.
		{2, 2, lock + "int 1000;store 1;load 1;ifzero 13;load 0;enter;load 1;int 1;arith sub;store 1;goto 4;load 0;enter;" +
			"return",
			"map 4 2 16 1;map 13 2 16 1", nil, out(1007)},
		{2, 2, lock + "int 999;store 1;load 1;ifzero 13;load 0;enter;load 1;int 1;arith sub;store 1;goto 4;load 0;enter;" +
			"int 8;print;return",
			"map 4 2 16 1;map 13 2 16 1", nil, out(8)},
	})
}

func TestP21_2WaitAndNotify(t *testing.T) {
	s := source{
		main: "1 2;new 0;putstatic 11 1;new 17;start;getstatic 11 1;enter;getstatic 11 1;enter;int 5;getstatic 11 1;wait;" +
			"print;" +
			"getstatic 11 1;leave;getstatic 11 1;leave;getstatic 11 1;leave;return",
		run: "1 2;getstatic 11 1;enter;getstatic 11 1;notify;getstatic 11 1;notify;getstatic 11 1;leave;return",
	}
	m := machineOf(t, s, 3)
	steps(t, m, 0, 10)
	wantThreads(t, m, mainAt(api.ThreadReady, 10), idle, runAt(api.ThreadReady, 0))
	steps(t, m, 0, 1)
	wantThreads(t, m, mainAt(api.ThreadWaiting, 10), idle, runAt(api.ThreadReady, 0))
	wantMay(t, m, 0, false, false)
	wantStep(t, m, 0, false, api.ErrModelThread)
	steps(t, m, 2, 3) // the monitor was free
	wantMay(t, m, 0, false, false)
	steps(t, m, 2, 1)
	wantThreads(t, m, mainAt(api.ThreadEntering, 10), idle, runAt(api.ThreadReady, 4))
	wantMay(t, m, 0, false, false)
	wantStep(t, m, 0, false, api.ErrModelThread)
	steps(t, m, 2, 2) // nobody waits any more
	wantThreads(t, m, mainAt(api.ThreadEntering, 10), idle, runAt(api.ThreadReady, 6))
	steps(t, m, 2, 2)
	wantMay(t, m, 0, true, false)
	wantStep(t, m, 0, true, api.ErrModelForm)
	steps(t, m, 0, 1)
	wantThreads(t, m, mainAt(api.ThreadReady, 11), idle, runAt(api.ThreadReady, 8))
	wantOut(t, m)
	steps(t, m, 0, 1) // what stood below the ref stands there still
	wantOut(t, m, 5)
	steps(t, m, 0, 4) // as deep as it was: 2
	wantStates(t, m, api.ThreadReady, api.ThreadIdle, api.ThreadReady)
	steps(t, m, 0, 2)
	wantStates(t, m, api.ThreadFailed, api.ThreadIdle, api.ThreadReady)
}

// waiters is a program whose four workers wait for one monitor, each in its turn, and print their numbers then.
func waiters(notify string) source {
	start := ""
	for number := 1; number <= 4; number++ {
		start += "new 17;dup;int " + strconv.Itoa(number) + ";putfield 17 0;start;"
	}
	return source{
		main: "0 3;new 0;putstatic 11 1;" + start + "getstatic 11 1;enter;" +
			strings.Repeat("getstatic 11 1;"+notify+";", 2) + "getstatic 11 1;leave;return",
		run: "1 1;getstatic 11 1;enter;getstatic 11 1;wait;load 0;getfield 17 0;print;getstatic 11 1;leave;return",
	}
}

func TestP21_2WhoIsNotified(t *testing.T) {
	for _, x := range []struct {
		notify string
		states []int // behind each of the two
		out    []int
	}{
		{"notify", []int{2, 2, 1, 2, 1, 2, 1, 2}, out(1, 3)},
		{"notifyall", []int{1, 1, 1, 1, 1, 1, 1, 1}, out(1, 2, 3, 4)},
	} {
		m := machineOf(t, waiters(x.notify), 6)
		steps(t, m, 0, 22)
		for _, thread := range []int{4, 2, 5, 3} {
			steps(t, m, thread, 4)
		}
		steps(t, m, 0, 2)
		for row := range 2 {
			steps(t, m, 0, 2)
			for i, thread := range []int{2, 3, 4, 5} {
				if got := m.Threads()[thread].State; got != x.states[4*row+i] {
					t.Errorf("%s %d: thread %d: %d; want %d", x.notify, row, thread, got, x.states[4*row+i])
				}
			}
		}
		play(m, 100)
		wantOut(t, m, x.out...)
	}
}

// TestP21_2WhoEndsGivesUpItsMonitors: by end, by failure, and the finalizer when it is idle.
func TestP21_2WhoEndsGivesUpItsMonitors(t *testing.T) {
	for _, x := range []struct {
		last  string
		state int
	}{{"return", api.ThreadEnded}, {"null;throw", api.ThreadFailed}} {
		m := machineOf(t, source{
			main: "1 1;new 0;putstatic 11 1;new 9;putstatic 11 2;new 17;store 0;load 0;enter;load 0;start;getstatic 11 1;" +
				"enter;getstatic 11 2;enter;" +
				"getstatic 11 1;leave;getstatic 11 2;leave;load 0;leave;return",
			run: "1 1;getstatic 11 1;enter;getstatic 11 1;enter;getstatic 11 2;enter;" + x.last,
		}, 3)
		steps(t, m, 0, 11)
		for m.Threads()[2].Frames > 0 {
			steps(t, m, 2, 1)
			if m.Threads()[2].At == 2 {
				steps(t, m, 0, 1)
				wantThreads(t, m, mainAt(api.ThreadEntering, 11), idle, runAt(api.ThreadReady, 2))
			}
			wantMay(t, m, 0, m.Threads()[2].At < 2, false)
		}
		wantThreads(t, m, mainAt(api.ThreadEntering, 11), idle, api.Thread{State: x.state})
		steps(t, m, 0, 10) // it owned what it owned, and enters what is free
		wantThreads(t, m, ended, idle, api.Thread{State: x.state})
	}
}

func TestP21_2Join(t *testing.T) {
	s := source{
		main: "1 2;new 17;store 0;load 0;join;load 0;start;int 6;load 0;join;print;load 0;join;load 0;join;return",
		run:  "1 1;nop;return",
	}
	for _, fails := range []bool{false, true} {
		if fails {
			s.run = "1 1;nop;null;throw"
		}
		m := machineOf(t, s, 3)
		steps(t, m, 0, 8) // the first join was of one that was never started
		wantThreads(t, m, mainAt(api.ThreadReady, 8), idle, runAt(api.ThreadReady, 0))
		steps(t, m, 0, 1)
		wantThreads(t, m, mainAt(api.ThreadJoining, 8), idle, runAt(api.ThreadReady, 0))
		wantMay(t, m, 0, false, false)
		wantStep(t, m, 0, false, api.ErrModelThread)
		steps(t, m, 2, 1)
		wantMay(t, m, 0, false, false)
		for m.Threads()[2].Frames > 0 {
			wantThreads(t, m, mainAt(api.ThreadJoining, 8), idle, m.Threads()[2])
			steps(t, m, 2, 1)
		}
		wantThreads(t, m, mainAt(api.ThreadJoining, 8), idle, api.Thread{State: m.Threads()[2].State})
		wantMay(t, m, 0, true, false)
		wantStep(t, m, 0, true, api.ErrModelForm)
		steps(t, m, 0, 1)
		wantThreads(t, m, mainAt(api.ThreadReady, 9), idle, m.Threads()[2])
		steps(t, m, 0, 6)
		wantOut(t, m, 6)
		wantThreads(t, m, ended, idle, m.Threads()[2])
	}
	wantShown(t, []shown{
		{0, 1, "null;join;return", "", nil, out(1002)},
		{0, 1, "new 9;join;int 1;print;return", "", nil, out(1)},
	})
}

// TestP21_2JoinOfOneself: it may never go on.
func TestP21_2JoinOfOneself(t *testing.T) {
	m := machineOf(t, source{main: "0 1;new 17;start;return", run: "1 1;load 0;join;return"}, 3)
	play(m, 10)
	wantThreads(t, m, ended, idle, runAt(api.ThreadJoining, 1))
	wantMay(t, m, 2, false, false)
}

func TestP21_2Start(t *testing.T) {
	wantShown(t, []shown{
		{0, 1, "null;start;return", "", nil, out(1002)},
		{1, 1, "new 17;store 0;load 0;start;int 1;print;load 0;start;return", "", nil, out(1, 1007)},
		{1, 1, "new 9;store 0;load 0;start;load 0;join;int 1;print;load 0;start;return", "", nil, out(1, 1007)},
		{0, 1, "new 9;start;new 9;start;int 1;print;new 9;start;return", "", nil, out(1, 1008)},
		// That it was started comes ahead of there being no room for it.
		{1, 1, "new 17;store 0;load 0;start;new 9;start;int 1;print;load 0;start;return", "", nil, out(1, 1007)},
		{0, 1, "new 9;start;new 9;start;null;start;return", "", nil, out(1002)},
	})
	for threads := 2; threads <= api.MaxThreads; threads++ {
		starts := strings.Repeat("new 17;start;int 1;print;", 7) + "return"
		m := machineOf(t, source{main: caught(0, 1, starts), run: "1 2;int 8;pop;return"}, threads)
		steps(t, m, 0, 4*(threads-2)+1)
		want := []api.Thread{mainAt(api.ThreadReady, 4*(threads-2)+1), idle}
		for range threads - 2 {
			want = append(want, runAt(api.ThreadReady, 0))
		}
		wantThreads(t, m, want...)
		for thread := 2; thread < threads; thread++ {
			steps(t, m, thread, 3)
		}
		play(m, 100)
		for range threads - 2 {
			if m.Out()[0] != 1 {
				t.Fatal(m.Out())
			}
		}
		if got := m.Out(); len(got) != threads-1 || got[threads-2] != 1008 {
			t.Errorf("%d threads: %v", threads, got)
		}
		if len(m.Threads()) != threads {
			t.Errorf("%d threads; want %d", len(m.Threads()), threads)
		}
	}
}

func TestP21_2StartOfOneWithoutARunOfItsOwn(t *testing.T) {
	// theSleeper's run is Static, so that its virtual one is ClassThread's.
	m := machineOf(t, source{main: "0 1;new 9;start;new 21;start;new 17;start;return"}, 5)
	steps(t, m, 0, 2)
	wantThreads(t, m, mainAt(api.ThreadReady, 2), idle, ended)
	wantMay(t, m, 2, false, false)
	steps(t, m, 0, 4)
	wantThreads(t, m, mainAt(api.ThreadReady, 6), idle, ended, ended, runAt(api.ThreadReady, 0))
}

func TestP21_2TheFinalizer(t *testing.T) {
	s := source{
		main: "0 3;new 18;dup;int 4;putfield 18 0;pop;new 19;dup;int 5;putfield 18 0;pop;new 18;dup;int 6;putfield 18 0;" +
			"pop;new 0;putstatic 11 1;" +
			"getstatic 11 1;enter;return",
		finalize: "1 1;getstatic 11 1;enter;load 0;getfield 18 0;print;load 0;putstatic 11 1;null;throw",
	}
	m := machineOf(t, s, 2)
	steps(t, m, 0, 17)
	wantMay(t, m, 1, false, false)
	wantStep(t, m, 1, false, api.ErrModelThread)
	for _, obj := range []int{12, 10, 11} {
		if e := m.Queue(obj); e != api.OK {
			t.Fatalf("Queue(%d) = %d", obj, e)
		}
		wantThreads(t, m, mainAt(api.ThreadReady, 17), idle)
		wantMay(t, m, 1, true, false)
	}
	wantStep(t, m, 1, true, api.ErrModelForm)
	wantThreads(t, m, mainAt(api.ThreadReady, 17), idle)
	finalizeAt := func(at int) api.Thread { return api.Thread{Frames: 1, Class: theFile, At: at} }
	for _, printed := range [][]int{{6}, {6, 4}, {6, 4, 5}} {
		steps(t, m, 1, 1)
		wantThreads(t, m, mainAt(api.ThreadReady, 17), finalizeAt(0))
		steps(t, m, 1, 5)
		wantOut(t, m, printed...)
		steps(t, m, 1, 3)
		wantThreads(t, m, mainAt(api.ThreadReady, 17), finalizeAt(8))
		steps(t, m, 1, 1) // it fails, and is idle
		wantThreads(t, m, mainAt(api.ThreadReady, 17), idle)
	}
	wantMay(t, m, 1, false, false)
	for obj := range 14 {
		if e := m.Queue(obj); e != api.ErrModelForm {
			t.Errorf("Queue(%d) = %d", obj, e)
		}
	}
	// The monitors that it entered are free: the last one stands in the static.
	steps(t, m, 0, 2)
	wantStates(t, m, api.ThreadReady, api.ThreadIdle)
}

// TestP21_2TheVirtualFinalize is that of the class that the object is.
func TestP21_2TheVirtualFinalize(t *testing.T) {
	s := source{main: "0 1;new 19;pop;new 18;pop;return", finalize: "1 1;int 18;print;return"}
	p := programOf(t, s)
	own := p.Classes[theFile-11].Methods[0]
	own.Code = []api.Ins{{Op: api.InsInt, A: 19}, {Op: api.InsPrint}, {Op: api.InsReturn}}
	static := api.Method{Name: "finalize", Static: true, Args: []int{1}, Locals: 1, Code: []api.Ins{{Op: api.InsReturn}}}
	p.Classes[theLog-11].Methods = []api.Method{static, own}
	m, e := model.New(p, 2, nil)
	if e != api.OK {
		t.Fatal(e)
	}
	steps(t, m, 0, 4)
	if m.Queue(10) != api.OK || m.Queue(11) != api.OK {
		t.Fatal("not queued")
	}
	steps(t, m, 1, 1)
	wantThreads(t, m, mainAt(api.ThreadReady, 4), api.Thread{Frames: 1, Class: theLog, Method: 1})
	play(m, 20)
	wantOut(t, m, 19, 18)
	wantThreads(t, m, ended, idle)
}

// TestP21_2TheFinalizerWaits, and is idle when it gives back, not ended.
func TestP21_2TheFinalizerWaits(t *testing.T) {
	s := source{
		main:     "0 1;new 18;pop;new 0;putstatic 11 1;getstatic 11 1;enter;getstatic 11 1;notify;getstatic 11 1;leave;return",
		finalize: "1 1;getstatic 11 1;enter;getstatic 11 1;wait;int 3;print;return",
	}
	m := machineOf(t, s, 2)
	steps(t, m, 0, 4)
	m.Queue(10)
	steps(t, m, 1, 5)
	wantStates(t, m, api.ThreadReady, api.ThreadWaiting)
	steps(t, m, 0, 4)
	wantStates(t, m, api.ThreadReady, api.ThreadEntering)
	play(m, 30)
	wantOut(t, m, 3)
	wantThreads(t, m, ended, idle)
}
