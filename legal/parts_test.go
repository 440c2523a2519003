package legal_test

import (
	"slices"
	"strings"
	"testing"

	"gneiss/api"
	"gneiss/asm"
	"gneiss/legal"
	"gneiss/load"
	"gneiss/model"
	"gneiss/verify"
)

// The classes of a source's program, and what is behind them.
const (
	theMain    = 11 + iota
	theNode    // fields n, an int, and o, an object
	theLeaf    // below theNode; field q, an object
	theFile    // Final; field o, an object
	theLog     // below theFile
	theDeepLog // below theLog, with a finalize of its own
	theWorker  // a thread; field o, an object
	theSleeper // a thread without a run of its own
	behindAll
)

// A source is a program's methods, each of its locals, its stack and its lines, with ; between; more is more lines of
// theMain, whose statics are an int, an object and a worker. theLeaf has an object as a static too.
type source struct {
	main, run, finalize, more string
}

func (s source) text() string {
	of := func(begin, lines, none string) string {
		if lines == "" {
			lines = none
		}
		return begin + " " + lines
	}
	return strings.ReplaceAll(strings.Join([]string{
		"main 11", "class Main 0 0",
		"static i 1", "static o 16", "static w 33",
		of("method main 1 0", s.main, "0 0;return"), s.more,
		"class Node 0 0", "field n 1", "field o 16",
		"class Leaf 12 0", "field q 16", "static o 16",
		"class File 0 2", "field o 16",
		of("method finalize 0 0", s.finalize, "1 0;return"),
		"class Log 14 0",
		"class DeepLog 15 0",
		of("method finalize 0 0", s.finalize, "1 0;return"),
		"class Worker 9 0", "field o 16",
		of("method run 0 0", s.run, "1 0;return"),
		"class Sleeper 9 0",
		"end", "",
	}, ";"), ";;", ";")
}

func machineOf(t *testing.T, s source, threads int) *model.Machine {
	t.Helper()
	p, line, e := asm.Parse(strings.ReplaceAll(s.text(), ";", "\n"))
	if e != api.OK {
		t.Fatalf("line %d: %d: %s", line, e, s.text())
	}
	m, e := model.New(p, threads, nil)
	if e != api.OK {
		ls, _, _ := load.Load(p)
		class, method, at, fault := verify.Program(p, ls)
		t.Fatalf("New: %d: %d, %d, %d: %d: %s", e, class, method, at, fault, s.text())
	}
	return m
}

// steps makes a thread step so many times.
func steps(t *testing.T, m *model.Machine, thread int, count int) {
	t.Helper()
	for i := range count {
		if e := m.Step(thread, false); e != api.OK {
			t.Fatalf("step %d of thread %d: %d: %v", i, thread, e, m.Threads())
		}
	}
}

// through makes a thread step as often as it may.
func through(t *testing.T, m *model.Machine, thread int) {
	t.Helper()
	for range 10000 {
		if may, _ := m.May(thread); !may {
			return
		}
		steps(t, m, thread, 1)
	}
	t.Fatalf("thread %d goes on for ever", thread)
}

func wantState(t *testing.T, m *model.Machine, thread int, want int) {
	t.Helper()
	if got := m.Threads()[thread].State; got != want {
		t.Fatalf("state of %d = %d; want %d", thread, got, want)
	}
}

// wantReached is that of the program's own objects these are reached, and of the machine's all but main's, if that has
// ended or failed; Clear is to say so of each.
func wantReached(t *testing.T, m *model.Machine, want ...int) {
	t.Helper()
	all := []int{1, 2, 3, 4, 5, 6, 7, 8, 9}
	if state := m.Threads()[0].State; state == api.ThreadEnded || state == api.ThreadFailed {
		all = slices.Delete(all, 7, 8)
	}
	all = append(all, want...)
	if got := legal.Reached(m); !slices.Equal(got, all) {
		t.Fatalf("Reached = %v; want %v", got, all)
	}
	for obj := 1; obj <= m.Objects(); obj++ {
		code := api.OK
		if slices.Contains(all, obj) {
			code = api.ErrLegalReached
		}
		wantClear(t, m, obj, code)
	}
}

func wantClear(t *testing.T, m *model.Machine, obj int, want api.Errno) {
	t.Helper()
	if got := legal.Clear(m, obj); got != want {
		t.Fatalf("Clear(%d) = %d; want %d", obj, got, want)
	}
}

func wantQueue(t *testing.T, m *model.Machine, obj int, want api.Errno) {
	t.Helper()
	if got := legal.Queue(m, obj); got != want {
		t.Fatalf("Queue(%d) = %d; want %d", obj, got, want)
	}
}
