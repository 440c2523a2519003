package load_test

import (
	"testing"

	"gneiss/api"
	"gneiss/load"
)

// A maker makes programs that are mostly right: a fault comes in once in a while.
type maker struct {
	*row
	faces []bool
	often int
}

func (r *maker) slip() bool {
	return r.once(r.often)
}

func (r *maker) class(isFace bool) (int, bool) {
	from := r.next(len(r.faces))
	for i := range r.faces {
		if at := (from + i) % len(r.faces); r.faces[at] == isFace {
			return 11 + at, true
		}
	}
	return 0, false
}

func (r *maker) typeNumber() int {
	if r.slip() {
		return pick(r.row, -1, 0, 2, 5, 15, 16+11+len(r.faces), 1000)
	}
	return pick(r.row, 1, 3, 4, 16+r.next(11+len(r.faces)))
}

func (r *maker) fields(n int) []api.Field {
	var all []api.Field
	for i := range r.next(n) {
		name := string(rune('a' + i))
		if r.slip() {
			name = "a"
		}
		all = append(all, api.Field{Name: name, Type: r.typeNumber()})
	}
	return all
}

func (r *maker) method() api.Method {
	m := pick(r.row, method("f", 0), method("f", 1), method("f", 0, 1), method("g", 0, 3, 1), method("g", 0, 1, 3),
		method("run", 0), method("finalize", 0), method("h", 0), method("f", 0), method("g", 0))
	if r.slip() {
		m.Ret = r.typeNumber()
	}
	if r.slip() {
		m.Args = append(m.Args, r.typeNumber())
	}
	if r.once(5) {
		m.Locals = r.next(5)
	}
	if r.once(4) {
		m.Static = true
	}
	return m
}

func (r *maker) body(isFace bool, n int) []api.Method {
	var all []api.Method
	seen := map[string]int{}
	for range r.next(n) {
		m := r.method()
		if isFace && !r.slip() {
			m.Static = false
		}
		if isFace && r.slip() {
			m.Code = make([]api.Ins, 1)
		}
		if !isFace && !r.slip() {
			m.Locals = 5
		}
		key := virtualText([]api.Entry{{Name: m.Name, Args: m.Args, Ret: m.Ret}})
		if seen[key] > 0 && !r.slip() {
			continue
		}
		seen[key]++
		all = append(all, m)
	}
	return all
}

// super is mostly one that is numbered below, so that there are few cycles.
func (r *maker) super(at int) int {
	if r.slip() {
		return pick(r.row, -1, 10, 11+len(r.faces), 11+r.next(len(r.faces)), 11+at)
	}
	c, has := r.class(false)
	if !has || r.once(3) || c >= 11+at && !r.once(4) {
		return pick(r.row, 0, 0, 0, 1, 5, 9)
	}
	return c
}

func (r *maker) one(at int) api.Class {
	isFace := r.faces[at]
	c := api.Class{Face: isFace, Methods: r.body(isFace, 6)}
	if isFace {
		c.Methods = r.body(isFace, 2)
	}
	for range r.next(3) {
		f, has := r.class(!r.slip())
		if has {
			c.Faces = append(c.Faces, f)
		}
	}
	if !isFace || r.slip() {
		c.Super = r.super(at)
		c.Fields, c.Statics = r.fields(4), r.fields(3)
		c.Final = r.once(6)
	}
	return c
}

func (r *row) program() api.Program {
	maker := &maker{row: r, often: pick(r, 4, 30, 1000000)}
	count := 1 + r.next(9)
	for i := range count {
		maker.faces = append(maker.faces, i > 0 && r.once(3))
	}
	p := api.Program{Main: 11}
	for i := range count {
		p.Classes = append(p.Classes, maker.one(i))
	}
	if !maker.slip() {
		p.Classes[0].Methods = append([]api.Method{static("main", 0)}, p.Classes[0].Methods...)
	}
	if maker.slip() || r.once(20) {
		p.Main = r.next(25)
	}
	return p
}

func TestP15_1AsTheChapterDonePlainly(t *testing.T) {
	r := row(15)
	seen := map[api.Errno]int{}
	for range 40000 {
		p := r.program()
		ls, class, code := load.Load(p)
		wantLs, wantClass, wantCode := (plain{p}).load()
		if !same(ls, wantLs) || class != wantClass || code != wantCode {
			t.Fatalf("Load(%+v) = %v, %d, %d; want %v, %d, %d", p, ls, class, code, wantLs, wantClass, wantCode)
		}
		seen[code]++
	}
	for _, code := range []api.Errno{0, 1500, 1501, 1502, 1503, 1504, 1505, 1506, 1507} {
		if seen[code] < 300 {
			t.Errorf("only %d programs with error %d", seen[code], code)
		}
	}
}
