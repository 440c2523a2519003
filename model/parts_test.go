package model_test

import (
	"slices"
	"strconv"
	"strings"
	"testing"

	"gneiss/api"
	"gneiss/asm"
	"gneiss/load"
	"gneiss/model"
	"gneiss/verify"
)

// The classes of a source's program.
const (
	theMain   = 11 + iota
	theFace   // size() int; both(int, object) object
	theShape  // is theFace; fields n, an int, and o, an object
	theSquare // below theShape; field m, an int
	theTrouble
	theDeeper  // below theTrouble
	theWorker  // a thread; field n, an int
	theFile    // Final; field n, an int
	theLog     // below theFile
	theOther   // a Face
	theSleeper // a thread without a run of its own, but a Static one
)

// A source is a program's methods, each of its locals, its stack and its lines, with ; between; more is more lines of
// theMain, whose statics are an int, an object, a thread, a weak reference and a worker.
type source struct {
	main, run, finalize, more string
}

func (s source) text() string {
	of := func(begin, lines, none string) string {
		if lines == "" {
			lines = none
		}
		return begin + " " + lines
	}
	return strings.ReplaceAll(strings.Join([]string{
		"main 11", "class Main 0 0",
		"static i 1", "static o 16", "static t 25", "static w 26", "static k 33",
		of("method main 1 0", s.main, "0 0;return"), s.more,
		"class Face 0 1",
		"method size 0 1 0 0",
		"method both 0 16 0 0 1 16",
		"class Shape 0 0 12",
		"field n 1", "field o 16",
		"method size 0 1 1 1", "load 0", "getfield 13 0", "giveint",
		"method both 0 16 3 2 1 16", "load 2", "load 1", "print", "giveref",
		"class Square 13 0",
		"field m 1",
		"method size 0 1 1 1", "int 4", "giveint",
		"class Trouble 1 0",
		"class Deeper 15 0",
		"class Worker 9 0",
		"field n 1",
		of("method run 0 0", s.run, "1 0;return"),
		"class File 0 2",
		"field n 1",
		of("method finalize 0 0", s.finalize, "1 0;return"),
		"class Log 18 0",
		"class Other 0 1",
		"class Sleeper 9 0",
		"method run 1 0 0 0", "return",
		"end", "",
	}, ";"), ";;", ";")
}

func programOf(t *testing.T, s source) api.Program {
	t.Helper()
	p, line, e := asm.Parse(strings.ReplaceAll(s.text(), ";", "\n"))
	if e != api.OK {
		t.Fatalf("line %d: %d: %s", line, e, s.text())
	}
	return p
}

func machineOf(t *testing.T, s source, threads int, inputs ...int) *model.Machine {
	t.Helper()
	p := programOf(t, s)
	m, e := model.New(p, threads, inputs)
	if m == nil || e != api.OK {
		ls, _, _ := load.Load(p)
		class, method, at, fault := verify.Program(p, ls)
		t.Fatalf("New = %v, %d: %d, %d, %d: %d: %s", m, e, class, method, at, fault, s.text())
	}
	return m
}

// caught is main's lines, with maps of its own, and for each fault's class c a handler of all of them that prints 1000 + c.
func caught(locals int, stack int, lines string, maps ...string) string {
	count := strings.Count(lines, ";") + 1
	all := []string{strconv.Itoa(locals) + " " + strconv.Itoa(max(stack, 1)), lines}
	var handlers []string
	for class := api.ClassNullFault; class <= api.ClassMemoryFault; class++ {
		at := strconv.Itoa(count + 4*(class-api.ClassNullFault))
		all = append(all, "pop", "int "+strconv.Itoa(1000+class), "print", "return")
		handlers = append(handlers, "handler 0 "+strconv.Itoa(count)+" "+at+" "+strconv.Itoa(class))
		maps = append(maps, "map "+at+" "+strconv.Itoa(locals)+strings.Repeat(" 0", locals)+" "+strconv.Itoa(16+class))
	}
	return strings.Join(slices.Concat(all, handlers, maps), ";")
}

// play steps all threads that may, in turn, until none may or so many rounds are over.
func play(m *model.Machine, most int) {
	for range most {
		moved := false
		for thread := range m.Threads() {
			moved = m.Step(thread, false) == api.OK || moved
		}
		if !moved {
			return
		}
	}
}

// steps makes a thread step so many times.
func steps(t *testing.T, m *model.Machine, thread int, count int) {
	t.Helper()
	for i := range count {
		if may, _ := m.May(thread); !may {
			t.Fatalf("step %d: thread %d may not: %v", i, thread, m.Threads())
		}
		if e := m.Step(thread, false); e != api.OK {
			t.Fatalf("step %d of thread %d: %d", i, thread, e)
		}
	}
}

func wantOut(t *testing.T, m *model.Machine, want ...int) {
	t.Helper()
	if got := m.Out(); !slices.Equal(got, want) {
		t.Fatalf("Out() = %v; want %v", got, want)
	}
}

func wantThreads(t *testing.T, m *model.Machine, want ...api.Thread) {
	t.Helper()
	if got := m.Threads(); !slices.Equal(got, want) {
		t.Fatalf("Threads() = %+v; want %+v", got, want)
	}
}

func wantStates(t *testing.T, m *model.Machine, want ...int) {
	t.Helper()
	var got []int
	for _, x := range m.Threads() {
		got = append(got, x.State)
	}
	if !slices.Equal(got, want) {
		t.Fatalf("states %v; want %v", got, want)
	}
}

func wantMay(t *testing.T, m *model.Machine, thread int, may bool, makes bool) {
	t.Helper()
	if a, b := m.May(thread); a != may || b != makes {
		t.Fatalf("May(%d) = %v, %v; want %v, %v", thread, a, b, may, makes)
	}
}

func wantField(t *testing.T, m *model.Machine, obj int, i int, want int, has bool) {
	t.Helper()
	if got, is := m.Field(obj, i); got != want || is != has {
		t.Fatalf("Field(%d, %d) = %d, %v; want %d, %v", obj, i, got, is, want, has)
	}
}
