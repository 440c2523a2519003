package code

import (
	"math"

	"gneiss/api"
)

// A scope is what operands can name: the program's own classes, and what the instructions' method has.
type scope struct {
	classes []api.Class
	locals  int
	code    []api.Ins
}

// A naming is what a number names in an S: which T, and whether there is one.
type naming[S, T any] func(in S, number int) (T, bool)

// operands is what an instruction's numbers name; those that it has not name nothing.
type operands interface {
	count() int
	name(in scope, i api.Ins) bool
}

type none struct{}

type one[T any] struct {
	a naming[scope, T]
}

// Of two, A names an owner, and B something that it owns.
type two[O, T any] struct {
	a naming[scope, O]
	b naming[O, T]
}

func (none) count() int      { return 0 }
func (one[T]) count() int    { return 1 }
func (two[O, T]) count() int { return 2 }

func (none) name(scope, api.Ins) bool {
	return true
}

func (x one[T]) name(in scope, i api.Ins) bool {
	_, has := x.a(in, i.A)
	return has
}

func (x two[O, T]) name(in scope, i api.Ins) bool {
	owner, has := x.a(in, i.A)
	if has {
		_, has = x.b(owner, i.B)
	}
	return has
}

// at is what stands at that place of a list, if it is one of its places.
func at[T any](list []T, place int) (T, bool) {
	if place < 0 || place >= len(list) {
		var nothing T
		return nothing, false
	}
	return list[place], true
}

func number(_ scope, a int) (int32, bool) {
	return int32(a), a >= math.MinInt32 && a <= math.MaxInt32
}

func local(in scope, a int) (int, bool) {
	return a, a >= 0 && a < in.locals
}

func operation(_ scope, a int) (string, bool) {
	words := operations()
	return at(words[:], a)
}

func target(in scope, a int) (api.Ins, bool) {
	return at(in.code, a)
}

// anyClass tells nothing of a built-in class but that there is one.
func anyClass(in scope, a int) (api.Class, bool) {
	if a >= 0 && a < api.FirstClass {
		return api.Class{}, true
	}
	return ownClass(in, a)
}

// ownClass is a class, or a Face, of the program's own.
func ownClass(in scope, a int) (api.Class, bool) {
	if a < api.FirstClass {
		return api.Class{}, false
	}
	return at(in.classes, a-api.FirstClass)
}

// madeClass leaves ClassWeak out, since a weak reference is made of its referent.
func madeClass(in scope, a int) (api.Class, bool) {
	c, has := anyClass(in, a)
	return c, has && !c.Face && a != api.ClassWeak
}

// calledClass is a class whose methods are called on what it is; of the built-in ones only ClassThread has any.
func calledClass(in scope, a int) (api.Class, bool) {
	if a == api.ClassThread {
		return api.Class{Methods: []api.Method{{Name: "run"}}}, true
	}
	c, has := ownClass(in, a)
	return c, has && !c.Face
}

func ownFace(in scope, a int) (api.Class, bool) {
	c, has := ownClass(in, a)
	return c, has && c.Face
}

func fieldOf(c api.Class, b int) (api.Field, bool) {
	return at(c.Fields, b)
}

func staticOf(c api.Class, b int) (api.Field, bool) {
	return at(c.Statics, b)
}

func staticMethodOf(c api.Class, b int) (api.Method, bool) {
	m, has := at(c.Methods, b)
	return m, has && m.Static
}

func virtualMethodOf(c api.Class, b int) (api.Method, bool) {
	m, has := at(c.Methods, b)
	return m, has && !m.Static
}
