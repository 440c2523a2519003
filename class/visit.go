package class

import (
	"gneiss/api"
)

// The kinds of a program's parts: a size is a method's Locals or Stack.
const (
	partNum = iota
	partName
	partCount
	partSize
)

// A part is a number or a name of a program; counts and sizes have a most.
type part struct {
	kind   int
	number int
	most   int
	name   string
}

// A visit is shown the parts of a program in the row in which they are written; it throws a fault to go no further.
type visit func(part)

// all shows how many items there are, then these.
func all[T any](see visit, items []T, most int, show func(visit, T)) {
	see(part{kind: partCount, number: len(items), most: most})
	for _, one := range items {
		show(see, one)
	}
}

func (see visit) num(x int) {
	see(part{kind: partNum, number: x})
}

func (see visit) name(s string) {
	see(part{kind: partName, name: s})
}

func (see visit) size(x int, most int) {
	see(part{kind: partSize, number: x, most: most})
}

func (see visit) program(p api.Program) {
	see.num(p.Main)
	all(see, p.Classes, api.MaxClasses, visit.class)
}

func (see visit) class(c api.Class) {
	see.name(c.Name)
	see.num(flagIf(c.Face, faceFlag) | flagIf(c.Final, finalFlag))
	see.num(c.Super)
	all(see, c.Faces, api.MaxFaces, visit.num)
	all(see, c.Fields, api.MaxFields, visit.field)
	all(see, c.Statics, api.MaxFields, visit.field)
	all(see, c.Methods, api.MaxMethods, visit.method)
}

func (see visit) field(f api.Field) {
	see.name(f.Name)
	see.num(f.Type)
}

func (see visit) method(m api.Method) {
	see.name(m.Name)
	see.num(flagIf(m.Static, staticFlag))
	all(see, m.Args, api.MaxArgs, visit.num)
	see.num(m.Ret)
	see.size(m.Locals, api.MaxLocals)
	see.size(m.Stack, api.MaxStack)
	all(see, m.Code, api.MaxCode, visit.ins)
	all(see, m.Table, api.MaxTable, visit.handler)
	all(see, m.Maps, api.MaxMaps, visit.stackMap)
}

func (see visit) ins(i api.Ins) {
	see.num(i.Op)
	see.num(i.A)
	see.num(i.B)
}

func (see visit) handler(h api.Handler) {
	see.num(h.From)
	see.num(h.To)
	see.num(h.At)
	see.num(h.Class)
}

func (see visit) stackMap(m api.Map) {
	see.num(m.At)
	all(see, m.Locals, api.MaxLocals, visit.num)
	all(see, m.Stack, api.MaxStack, visit.num)
}

func flagIf(is bool, flag int) int {
	if is {
		return flag
	}
	return 0
}
