package verify_test

import (
	"math"
	"slices"
	"strings"
	"testing"

	"gneiss/api"
	"gneiss/code"
	"gneiss/load"
	"gneiss/verify"
)

// extremes are numbers at the edges of what an int, a number of layer 1, a type, and a list's place may be.
var extremes = []int{math.MinInt, math.MinInt + 1, math.MinInt + 16, math.MinInt32 - 1, math.MinInt32, -17, -16, -3, -2, -1,
	0, 1, 2, 3, 4, 5, 10, 11, 15, 16, 17, 26, 27, 33, 34, 300, 301, math.MaxInt32, math.MaxInt32 + 1, math.MaxInt - 16,
	math.MaxInt - 1, math.MaxInt}

// The numbers of the classes of program.
const (
	mainClass = 11 + iota
	shaped
	shape
	square
	trouble
	worker
	behindAll
)

// typeOf is the type of a class's objects.
func typeOf(class int) int {
	return api.TypeClass + class
}

// program has in class 11 statics of each kind and, as method 1, m; a Face shaped; a class shape that is shaped, with
// fields of each kind; square below it; trouble, a throwable; worker, a thread.
func program(m api.Method) api.Program {
	m.Name = "under"
	ends := []api.Ins{{Op: api.InsReturn}}
	null := []api.Ins{{Op: api.InsNull}, {Op: api.InsGiveRef}}
	fields := []api.Field{{Name: "i", Type: api.TypeInt}, {Name: "o", Type: typeOf(shape)}, {Name: "n", Type: api.TypeInts},
		{Name: "r", Type: api.TypeRefs}, {Name: "f", Type: typeOf(shaped)}}
	return api.Program{Main: mainClass, Classes: []api.Class{
		{Name: "Main", Statics: fields, Methods: []api.Method{
			{Name: "main", Static: true, Code: ends}, m,
			{Name: "none", Static: true, Code: ends},
			{Name: "give", Static: true, Args: []int{api.TypeInt, typeOf(shape)}, Ret: api.TypeInt, Locals: 2, Stack: 1,
				Code: []api.Ins{{Op: api.InsInt}, {Op: api.InsGiveInt}}},
			{Name: "list", Static: true, Ret: api.TypeRefs, Stack: 1, Code: null}}},
		{Name: "Shaped", Face: true, Methods: []api.Method{
			{Name: "next", Args: []int{api.TypeInt}, Ret: typeOf(shape)}, {Name: "stop"}}},
		{Name: "Shape", Faces: []int{shaped}, Fields: fields, Methods: []api.Method{
			{Name: "next", Args: []int{api.TypeInt}, Ret: typeOf(shape), Locals: 2, Stack: 1, Code: null},
			{Name: "stop", Locals: 1, Code: ends},
			{Name: "two", Args: []int{api.TypeRefs, typeOf(square)}, Ret: api.TypeInts, Locals: 3, Stack: 1, Code: null}}},
		{Name: "Square", Super: shape},
		{Name: "Trouble", Super: api.ClassThrowable},
		{Name: "Worker", Super: api.ClassThread},
	}}
}

func loaded(t *testing.T, p api.Program) []api.Layout {
	t.Helper()
	ls, class, e := load.Load(p)
	if e != api.OK {
		t.Fatalf("class %d: %d", class, e)
	}
	return ls
}

// code16 is instructions by their texts, with ; between.
func code16(t *testing.T, texts string) []api.Ins {
	t.Helper()
	var all []api.Ins
	for _, text := range strings.Split(texts, ";") {
		i, e := code.Parse(text)
		if e != api.OK {
			t.Fatalf("%q: %d", text, e)
		}
		all = append(all, i)
	}
	return all
}

// method is a Static one without Args, with handlers and maps.
func method(t *testing.T, locals, stack int, texts string, more ...any) api.Method {
	t.Helper()
	m := api.Method{Static: true, Locals: locals, Stack: stack, Code: code16(t, texts)}
	for _, one := range more {
		switch x := one.(type) {
		case api.Handler:
			m.Table = append(m.Table, x)
		case api.Map:
			m.Maps = append(m.Maps, x)
		}
	}
	return m
}

func giving(ret int, m api.Method) api.Method {
	m.Ret = ret
	return m
}

func list(types ...int) []int {
	return types
}

func mapAt(at int, locals []int, stack ...int) api.Map {
	return api.Map{At: at, Locals: locals, Stack: stack}
}

func handler(from, to, at, class int) api.Handler {
	return api.Handler{From: from, To: to, At: at, Class: class}
}

// want holds m against what it must come to, alone and within its program.
func want(t *testing.T, m api.Method, place int, code api.Errno) {
	t.Helper()
	p := program(m)
	ls := loaded(t, p)
	if at, e := verify.Method(p, ls, mainClass, 1); at != place || e != code {
		t.Errorf("Method of %+v = %d, %d; want %d, %d", m, at, e, place, code)
	}
	class, number := mainClass, 1
	if code == api.OK {
		class, number = 0, 0
	}
	if c, n, at, e := verify.Program(p, ls); c != class || n != number || at != place || e != code {
		t.Errorf("Program of %+v = %d, %d, %d, %d; want %d, %d, %d, %d", m, c, n, at, e, class, number, place, code)
	}
}

func wantTaken(t *testing.T, m api.Method) {
	t.Helper()
	want(t, m, 0, api.OK)
}

// cloned shares nothing with m.
func cloned(m api.Method) api.Method {
	m.Args, m.Code, m.Table, m.Maps = slices.Clone(m.Args), slices.Clone(m.Code), slices.Clone(m.Table), slices.Clone(m.Maps)
	for i, one := range m.Maps {
		m.Maps[i].Locals, m.Maps[i].Stack = slices.Clone(one.Locals), slices.Clone(one.Stack)
	}
	return m
}

// random is a fixed row of numbers.
type random uint64

func (r *random) next(n int) int {
	*r = *r*6364136223846793005 + 1442695040888963407
	return int(uint64(*r) >> 33 % uint64(n))
}

func (r *random) once(n int) bool {
	return r.next(n) == 0
}

func pick[T any](r *random, items ...T) T {
	return items[r.next(len(items))]
}
