package load_test

import (
	"reflect"
	"slices"
	"strconv"
	"strings"
	"testing"

	"gneiss/api"
	"gneiss/load"
)

// mainClass is a class that may be Main.
func mainClass() api.Class {
	return api.Class{Name: "Main", Methods: []api.Method{{Name: "main", Static: true}}}
}

// with is a program whose class 11 is Main; the classes that are given have the numbers from 12 on.
func with(classes ...api.Class) api.Program {
	return api.Program{Main: 11, Classes: append([]api.Class{mainClass()}, classes...)}
}

// method is one that is not Static, with room for all that it may be given.
func method(name string, ret int, args ...int) api.Method {
	return api.Method{Name: name, Args: args, Ret: ret, Locals: len(args) + 1}
}

func static(name string, ret int, args ...int) api.Method {
	return api.Method{Name: name, Static: true, Args: args, Ret: ret, Locals: len(args)}
}

func methods(all ...api.Method) api.Class {
	return api.Class{Name: "A", Methods: all}
}

func face(faces []int, all ...api.Method) api.Class {
	return api.Class{Name: "F", Face: true, Faces: faces, Methods: all}
}

// typeOf is the type of a class's objects.
func typeOf(class int) int {
	return api.TypeClass + class
}

func wantTaken(t *testing.T, p api.Program) []api.Layout {
	t.Helper()
	ls, class, code := load.Load(p)
	if len(ls) != api.FirstClass+len(p.Classes) || class != 0 || code != api.OK {
		t.Fatalf("Load(%v) = %v, %d, %d; want %d layouts, 0, OK", p, ls, class, code, api.FirstClass+len(p.Classes))
	}
	return ls
}

func wantFault(t *testing.T, p api.Program, class int, code api.Errno) {
	t.Helper()
	ls, gotClass, gotCode := load.Load(p)
	if ls != nil || gotClass != class || gotCode != code {
		t.Fatalf("Load(%v) = %v, %d, %d; want none, %d, %d", p, ls, gotClass, gotCode, class, code)
	}
}

// wantEach holds a class, number 12 of a program, against what it must come to: OK, or a fault of it.
func wantEach(t *testing.T, code api.Errno, classes ...api.Class) {
	t.Helper()
	for _, c := range classes {
		if code == api.OK {
			wantTaken(t, with(c))
		} else {
			wantFault(t, with(c), 12, code)
		}
	}
}

// fieldsText and virtualText tell lists in short: name:type, and name(args)ret@class.method.
func fieldsText(fields []api.Field) string {
	var words []string
	for _, f := range fields {
		words = append(words, f.Name+":"+strconv.Itoa(f.Type))
	}
	return strings.Join(words, " ")
}

func virtualText(virtual []api.Entry) string {
	var words []string
	for _, e := range virtual {
		var args []string
		for _, arg := range e.Args {
			args = append(args, strconv.Itoa(arg))
		}
		words = append(words, e.Name+"("+strings.Join(args, ",")+")"+strconv.Itoa(e.Ret)+
			"@"+strconv.Itoa(e.Class)+"."+strconv.Itoa(e.Method))
	}
	return strings.Join(words, " ")
}

// A shape is a layout in short.
type shape struct {
	fields  string
	offset  int
	virtual string
	above   []int
}

func wantShapes(t *testing.T, ls []api.Layout, from int, want ...shape) {
	t.Helper()
	for i, w := range want {
		l := ls[from+i]
		got := shape{fieldsText(l.Fields), l.Offset, virtualText(l.Virtual), l.Above}
		if !reflect.DeepEqual(got, w) {
			t.Errorf("class %d: %v; want %v", from+i, got, w)
		}
	}
}

// same tells whether layouts are one; an empty list and nil are.
func same(ls, ks []api.Layout) bool {
	return slices.EqualFunc(ls, ks, func(l, k api.Layout) bool {
		return slices.Equal(l.Fields, k.Fields) && l.Offset == k.Offset && virtualText(l.Virtual) == virtualText(k.Virtual) &&
			slices.Equal(l.Above, k.Above)
	})
}

// copyOf is p in memory of its own, each list without spare room.
func copyOf(p api.Program) api.Program {
	p.Classes = slices.Clip(slices.Clone(p.Classes))
	for i := range p.Classes {
		c := &p.Classes[i]
		c.Faces, c.Fields, c.Statics = slices.Clone(c.Faces), slices.Clone(c.Fields), slices.Clone(c.Statics)
		c.Methods = slices.Clone(c.Methods)
		for k := range c.Methods {
			m := &c.Methods[k]
			m.Args, m.Code, m.Table = slices.Clone(m.Args), slices.Clone(m.Code), slices.Clone(m.Table)
			m.Maps = slices.Clone(m.Maps)
			for j := range m.Maps {
				m.Maps[j].Locals, m.Maps[j].Stack = slices.Clone(m.Maps[j].Locals), slices.Clone(m.Maps[j].Stack)
			}
		}
	}
	return p
}

// row is a fixed row of numbers.
type row uint64

func (r *row) next(n int) int {
	*r = *r*6364136223846793005 + 1442695040888963407
	return int(uint64(*r) >> 33 % uint64(n))
}

// now and then: once in n times.
func (r *row) once(n int) bool {
	return r.next(n) == 0
}

func pick[T any](r *row, items ...T) T {
	return items[r.next(len(items))]
}
