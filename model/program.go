package model

import (
	"slices"
	"strings"

	"gneiss/api"
	"gneiss/load"
	"gneiss/verify"
)

// A program is one that layers 15 and 18 take, by the numbers of its classes. It is never changed, so that a machine's
// copies can share it.
type program struct {
	layouts []api.Layout
	methods [][]api.Method
	isFinal []bool // whether the class, or one that it is below, is Final
}

// programOf is the program that p is, and whether it is taken.
func programOf(p api.Program) (program, bool) {
	layouts, _, code := load.Load(p)
	if code != api.OK {
		return program{}, false
	}
	if _, _, _, code = verify.Program(p, layouts); code != api.OK {
		return program{}, false
	}
	return program{layouts, methodsOf(p), finalsOf(p, layouts)}, true
}

// methodsOf is all classes' methods; of the built-in ones only ClassThread has any, which has no instruction.
func methodsOf(p api.Program) [][]api.Method {
	all := make([][]api.Method, api.FirstClass, api.FirstClass+len(p.Classes))
	all[api.ClassThread] = []api.Method{{Name: "run"}}
	for _, c := range p.Classes {
		all = append(all, copies(c.Methods, ownMethod))
	}
	return all
}

// ownMethod is what a machine asks of m, in memory of its own.
func ownMethod(m api.Method) api.Method {
	return api.Method{
		Name:   strings.Clone(m.Name),
		Args:   slices.Clone(m.Args),
		Ret:    m.Ret,
		Locals: m.Locals,
		Code:   slices.Clone(m.Code),
		Table:  slices.Clone(m.Table),
	}
}

func finalsOf(p api.Program, layouts []api.Layout) []bool {
	is := func(class int) bool { return class >= api.FirstClass && p.Classes[class-api.FirstClass].Final }
	all := make([]bool, 0, len(layouts))
	for _, l := range layouts {
		all = append(all, slices.ContainsFunc(l.Above, is))
	}
	return all
}

// frameOf is a method's frame at its first instruction; given is its first locals.
func (p *program) frameOf(class int, method int, given []value) *frame {
	locals := make([]value, p.methods[class][method].Locals)
	copy(locals, given)
	return &frame{class: class, method: method, locals: locals}
}

// virtual is the frame of the method of called's signature that an object of the class has, and whether that does
// anything: ClassThread's own doesn't.
func (p *program) virtual(class int, called api.Method, given []value) (*frame, bool) {
	class, method, _ := load.Find(p.layouts, class, called.Name, called.Args, called.Ret)
	if class == api.ClassThread {
		return nil, false
	}
	return p.frameOf(class, method, given), true
}

// next is the instruction at which a frame stands.
func (p *program) next(f *frame) api.Ins {
	return p.methods[f.class][f.method].Code[f.at]
}

// handler is the first one of the frame's that takes what is thrown, of that class, by the instruction that it did last.
func (p *program) handler(f *frame, class int) (api.Handler, bool) {
	place := f.at - 1
	table := p.methods[f.class][f.method].Table
	first := slices.IndexFunc(table, func(h api.Handler) bool {
		return h.From <= place && place < h.To && load.Is(p.layouts, class, h.Class)
	})
	if first < 0 {
		return api.Handler{}, false
	}
	return table[first], true
}
