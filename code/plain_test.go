package code_test

import (
	"testing"

	"gneiss/api"
	"gneiss/code"
	"gneiss/load"
)

// plainCheck does the chapter's words of P16.2 one by one.
func plainCheck(p api.Program, class, method int) (int, api.Errno) {
	if _, _, e := load.Load(p); e != api.OK {
		return 0, api.ErrCodeArgs
	}
	if class < 11 || class >= 11+len(p.Classes) || p.Classes[class-11].Face {
		return 0, api.ErrCodeArgs
	}
	if method < 0 || method >= len(p.Classes[class-11].Methods) {
		return 0, api.ErrCodeArgs
	}
	m := p.Classes[class-11].Methods[method]
	for place, i := range m.Code {
		switch {
		case i.Op < 0 || i.Op > 46:
			return place, api.ErrCodeOp
		case plainWrong(p, m, i):
			return place, api.ErrCodeArgs
		case i.Op >= 9 && i.Op <= 13 && (i.A < 0 || i.A >= len(m.Code)):
			return place, api.ErrCodeTarget
		}
	}
	if len(m.Code) == 0 {
		return 0, api.ErrCodeTarget
	}
	switch m.Code[len(m.Code)-1].Op {
	case 9, 29, 30, 31, 32:
		return 0, api.OK
	}
	return len(m.Code), api.ErrCodeTarget
}

// plainWrong tells whether an instruction's operands are what ErrCodeArgs tells.
func plainWrong(p api.Program, m api.Method, i api.Ins) bool {
	switch i.Op {
	case 1, 3, 4, 8, 9, 10, 11, 12, 13, 14, 33, 34:
		if i.B != 0 {
			return true
		}
	case 15, 16, 17, 18, 26, 27, 28:
	default:
		return i.A != 0 || i.B != 0
	}
	isClass := i.A >= 0 && i.A < 11+len(p.Classes)
	var own api.Class
	if isClass && i.A >= 11 {
		own = p.Classes[i.A-11]
	}
	switch i.Op {
	case api.InsInt:
		return i.A < -1<<31 || i.A > 1<<31-1
	case api.InsLoad, api.InsStore:
		return i.A < 0 || i.A > m.Locals-1
	case api.InsArith:
		return i.A < 0 || i.A > 11
	case api.InsNew:
		return !isClass || own.Face || i.A == 10
	case api.InsIs, api.InsCast:
		return !isClass
	case api.InsGetField, api.InsPutField:
		return i.B < 0 || i.B >= len(own.Fields)
	case api.InsGetStatic, api.InsPutStatic:
		return i.B < 0 || i.B >= len(own.Statics)
	case api.InsCallStatic:
		return i.B < 0 || i.B >= len(own.Methods) || !own.Methods[i.B].Static
	case api.InsCallVirtual:
		if i.A == 9 && i.B == 0 {
			return false
		}
		return own.Face || i.B < 0 || i.B >= len(own.Methods) || own.Methods[i.B].Static
	case api.InsCallFace:
		return !own.Face || i.B < 0 || i.B >= len(own.Methods)
	}
	return false
}

func (r *random) class(at int) api.Class {
	field := func(i int) api.Field { return api.Field{Name: string(rune('a' + i)), Type: api.TypeInt} }
	c := api.Class{Face: at > 0 && r.once(3)}
	for i := range r.next(4) {
		m := api.Method{Name: string(rune('a' + i))}
		if !c.Face {
			m.Static, m.Locals = r.once(2), 1+r.next(4)
		}
		c.Methods = append(c.Methods, m)
	}
	if c.Face {
		return c
	}
	for i := range r.next(3) {
		c.Fields = append(c.Fields, field(i))
	}
	for i := range r.next(3) {
		c.Statics = append(c.Statics, field(i))
	}
	c.Super = pick(r, 0, 0, api.ClassThread, api.ClassThrowable)
	return c
}

// ins is mostly one that may be right.
func (r *random) ins(length int) api.Ins {
	i := api.Ins{Op: r.next(47)}
	if r.once(40) {
		i.Op = pick(r, -1, 47, 48)
	}
	if i.Op >= 0 && i.Op < 47 && counts[i.Op] > 0 {
		i.A = pick(r, r.next(4), r.next(length), 8+r.next(10))
	}
	if i.Op >= 0 && i.Op < 47 && counts[i.Op] > 1 {
		i.A, i.B = 8+r.next(9), r.next(3)
	}
	if r.once(40) {
		i.A = pick(r, extremes...)
	}
	if r.once(40) {
		i.B = pick(r, extremes...)
	}
	return i
}

func (r *random) program() api.Program {
	p := api.Program{Main: 11}
	for at := range 1 + r.next(6) {
		p.Classes = append(p.Classes, r.class(at))
	}
	first := &p.Classes[0].Methods
	*first = append([]api.Method{{Name: "main", Static: true, Locals: r.next(5)}}, *first...)
	for c := range p.Classes {
		for m := range p.Classes[c].Methods {
			if p.Classes[c].Face {
				continue
			}
			length := r.next(7)
			for range length {
				p.Classes[c].Methods[m].Code = append(p.Classes[c].Methods[m].Code, r.ins(length))
			}
			if r.once(2) {
				p.Classes[c].Methods[m].Code = append(p.Classes[c].Methods[m].Code, api.Ins{Op: pick(r, 9, 29, 30, 31, 32)})
			}
		}
	}
	if r.once(50) {
		p.Main = r.next(20)
	}
	return p
}

func TestP16_2AsTheChapterDonePlainly(t *testing.T) {
	r := random(16)
	seen := map[api.Errno]int{}
	for range 30000 {
		p := r.program()
		class, method := 11+r.next(len(p.Classes)), r.next(4)
		if r.once(20) {
			class, method = r.next(20), r.next(6)-1
		}
		at, e := code.Check(p, class, method)
		if wantAt, want := plainCheck(p, class, method); at != wantAt || e != want {
			t.Fatalf("Check(%+v, %d, %d) = %d, %d; want %d, %d", p, class, method, at, e, wantAt, want)
		}
		seen[e]++
	}
	for _, e := range []api.Errno{api.OK, api.ErrCodeOp, api.ErrCodeArgs, api.ErrCodeTarget} {
		if seen[e] < 300 {
			t.Errorf("only %d checks with error %d", seen[e], e)
		}
	}
}
