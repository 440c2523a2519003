package asm_test

import (
	"reflect"
	"strings"
	"testing"

	"gneiss/api"
	"gneiss/asm"
)

// small is a program of all kinds of lines, by its text.
const small = `main 11
class Main 0 0
static count 1
static _o 29
method main 1 0 2 3
int -5
store 0
goto 4
getfield 13 0
arith ushr
callface 12 0
return
handler 0 3 4 1
handler -1 2 3 15
map 4 2 0 1
map 5 2 16 17 27 3
map 6 0
method two 0 1 3 1 1 29
giveint
class F 0 1
method f 0 29 0 0 1
class A 9 2 12 14
field x 1
field y2_ 3
static x 4
class G 0 3
end
`

// smallProgram is the program whose text small is.
func smallProgram() api.Program {
	return api.Program{Main: 11, Classes: []api.Class{
		{Name: "Main", Statics: []api.Field{{Name: "count", Type: 1}, {Name: "_o", Type: 29}}, Methods: []api.Method{
			{Name: "main", Static: true, Locals: 2, Stack: 3,
				Code: []api.Ins{{Op: api.InsInt, A: -5}, {Op: api.InsStore}, {Op: api.InsGoto, A: 4},
					{Op: api.InsGetField, A: 13}, {Op: api.InsArith, A: api.ArithUshr}, {Op: api.InsCallFace, A: 12},
					{Op: api.InsReturn}},
				Table: []api.Handler{{From: 0, To: 3, At: 4, Class: 1}, {From: -1, To: 2, At: 3, Class: 15}},
				Maps: []api.Map{{At: 4, Locals: []int{0, 1}}, {At: 5, Locals: []int{16, 17}, Stack: []int{27, 3}},
					{At: 6}}},
			{Name: "two", Args: []int{1, 29}, Ret: 1, Locals: 3, Stack: 1, Code: []api.Ins{{Op: api.InsGiveInt}}}}},
		{Name: "F", Face: true, Methods: []api.Method{{Name: "f", Args: []int{1}, Ret: 29}}},
		{Name: "A", Super: 9, Final: true, Faces: []int{12, 14}, Fields: []api.Field{{Name: "x", Type: 1}, {Name: "y2_", Type: 3}},
			Statics: []api.Field{{Name: "x", Type: 4}}},
		{Name: "G", Face: true, Final: true},
	}}
}

// tidy makes empty lists nil, since they are one.
func tidy(p api.Program) api.Program {
	for c := range p.Classes {
		class := &p.Classes[c]
		class.Faces, class.Fields, class.Statics = some(class.Faces), some(class.Fields), some(class.Statics)
		class.Methods = some(class.Methods)
		for m := range class.Methods {
			one := &class.Methods[m]
			one.Args, one.Code, one.Table, one.Maps = some(one.Args), some(one.Code), some(one.Table), some(one.Maps)
			for i := range one.Maps {
				one.Maps[i].Locals, one.Maps[i].Stack = some(one.Maps[i].Locals), some(one.Maps[i].Stack)
			}
		}
	}
	p.Classes = some(p.Classes)
	return p
}

func some[T any](items []T) []T {
	if len(items) == 0 {
		return nil
	}
	return items
}

func wantParsed(t *testing.T, s string, want api.Program) {
	t.Helper()
	p, line, e := asm.Parse(s)
	if !reflect.DeepEqual(tidy(p), tidy(want)) || line != 0 || e != api.OK {
		t.Errorf("Parse(%.300q) = %+v, %d, %d; want %+v", s, p, line, e, want)
	}
}

func wantFault(t *testing.T, s string, wantLine int, want api.Errno) {
	t.Helper()
	p, line, e := asm.Parse(s)
	if !reflect.DeepEqual(p, api.Program{}) || line != wantLine || e != want {
		t.Errorf("Parse(%.300q) = %+v, %d, %d; want %d, %d", s, p, line, e, wantLine, want)
	}
}

// lines is a text of lines.
func lines(all ...string) string {
	return strings.Join(all, "\n") + "\n"
}

// within is a text in which a line stands at line 4, behind the beginning of a method.
func within(line string) string {
	return lines("main 11", "class A 0 0", "method m 0 0 0 0", line, "end")
}

// random is a fixed row of numbers.
type random uint64

func (r *random) next(n int) int {
	*r = *r*6364136223846793005 + 1442695040888963407
	return int(uint64(*r) >> 33 % uint64(n))
}

func (r *random) once(n int) bool {
	return r.next(n) == 0
}

func pick[T any](r *random, items ...T) T {
	return items[r.next(len(items))]
}
