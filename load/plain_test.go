package load_test

import (
	"slices"

	"gneiss/api"
)

// A plain loader does the chapter's words one by one, with no thought of time.
type plain struct {
	p api.Program
}

func (x plain) count() int {
	return 11 + len(x.p.Classes)
}

func (x plain) isOwn(c int) bool {
	return c >= 11 && c < x.count()
}

func (x plain) isFace(c int) bool {
	return x.isOwn(c) && x.p.Classes[c-11].Face
}

// superOf is -1 of ClassObject.
func (x plain) superOf(c int) int {
	switch {
	case c == api.ClassObject:
		return -1
	case c >= 2 && c <= 8:
		return api.ClassThrowable
	case c < 11:
		return api.ClassObject
	}
	return x.p.Classes[c-11].Super
}

func (x plain) fault() (int, api.Errno) {
	rules := []struct {
		code   api.Errno
		breaks func(c int) bool
	}{
		{1500, x.super}, {1501, x.cycle}, {1502, x.face}, {1504, x.sign}, {1503, x.twice}, {1507, x.missing}, {1506, x.final},
	}
	for _, rule := range rules {
		for c := 11; c < x.count(); c++ {
			if rule.breaks(c) {
				return c, rule.code
			}
		}
	}
	if !x.isOwn(x.p.Main) || x.isFace(x.p.Main) {
		return x.p.Main, 1505
	}
	main := x.p.Classes[x.p.Main-11].Methods
	if len(main) == 0 || !main[0].Static || len(main[0].Args) > 0 || main[0].Ret != 0 {
		return x.p.Main, 1505
	}
	return 0, 0
}

func (x plain) super(c int) bool {
	s := x.superOf(c)
	if x.isFace(c) {
		return s != 0
	}
	return s < 0 || s >= x.count() || x.isFace(s) || s == 10
}

func (x plain) cycle(c int) bool {
	at := c
	for range 1000 {
		at = x.superOf(at)
		if at == c {
			return true
		}
		if at < 0 {
			return false
		}
	}
	return false
}

func (x plain) face(c int) bool {
	class := x.p.Classes[c-11]
	for _, f := range class.Faces {
		if !x.isFace(f) {
			return true
		}
	}
	if !class.Face {
		return false
	}
	if class.Final || len(class.Fields)+len(class.Statics) > 0 {
		return true
	}
	for _, m := range class.Methods {
		if m.Static || len(m.Code)+len(m.Table)+len(m.Maps) > 0 {
			return true
		}
	}
	return false
}

func (x plain) isType(t int) bool {
	return t == 1 || t == 3 || t == 4 || t >= 16 && t < 16+x.count()
}

func (x plain) sign(c int) bool {
	class := x.p.Classes[c-11]
	for _, f := range slices.Concat(class.Fields, class.Statics) {
		if !x.isType(f.Type) {
			return true
		}
	}
	for _, m := range class.Methods {
		needs := len(m.Args)
		if !m.Static {
			needs++
		}
		if m.Ret != 0 && !x.isType(m.Ret) || !class.Face && needs > m.Locals {
			return true
		}
		for _, arg := range m.Args {
			if !x.isType(arg) {
				return true
			}
		}
	}
	return false
}

func isOne(m api.Method, e api.Entry) bool {
	return m.Name == e.Name && slices.Equal(m.Args, e.Args) && m.Ret == e.Ret
}

func (x plain) twice(c int) bool {
	class := x.p.Classes[c-11]
	for i, m := range class.Methods {
		for _, n := range class.Methods[:i] {
			if isOne(m, api.Entry{Name: n.Name, Args: n.Args, Ret: n.Ret}) {
				return true
			}
		}
	}
	for _, list := range [][]api.Field{class.Fields, class.Statics} {
		for i, f := range list {
			for _, g := range list[:i] {
				if f.Name == g.Name {
					return true
				}
			}
		}
	}
	return false
}

func (x plain) has(c int, wanted api.Method) bool {
	return slices.ContainsFunc(x.virtual(c), func(e api.Entry) bool { return isOne(wanted, e) })
}

func (x plain) missing(c int) bool {
	if x.isFace(c) {
		return false
	}
	for _, f := range x.above(c) {
		if !x.isFace(f) {
			continue
		}
		for _, m := range x.p.Classes[f-11].Methods {
			if !x.has(c, m) {
				return true
			}
		}
	}
	return false
}

func (x plain) final(c int) bool {
	return x.p.Classes[c-11].Final && !x.has(c, api.Method{Name: "finalize"})
}

func (x plain) fields(c int) []api.Field {
	if c < 11 {
		return nil
	}
	return slices.Concat(x.fields(x.superOf(c)), x.p.Classes[c-11].Fields)
}

func (x plain) virtual(c int) []api.Entry {
	switch {
	case c == api.ClassThread:
		return []api.Entry{{Name: "run", Class: 9}}
	case c < 11:
		return nil
	}
	all := slices.Clone(x.virtual(x.superOf(c)))
	var others []api.Entry
	for i, m := range x.p.Classes[c-11].Methods {
		own := api.Entry{Name: m.Name, Args: m.Args, Ret: m.Ret, Class: c, Method: i}
		isIn := false
		for k := range all {
			if !m.Static && isOne(m, all[k]) {
				all[k], isIn = own, true
			}
		}
		if !isIn && !m.Static {
			others = append(others, own)
		}
	}
	return append(all, others...)
}

// above adds, as long as anything is added, what stands right above what is there.
func (x plain) above(c int) []int {
	is := map[int]bool{c: true, api.ClassObject: true}
	for was := 0; was < len(is); {
		was = len(is)
		for one := range x.count() {
			if !is[one] || one == api.ClassObject {
				continue
			}
			is[x.superOf(one)] = true
			if x.isOwn(one) {
				for _, f := range x.p.Classes[one-11].Faces {
					is[f] = true
				}
			}
		}
	}
	var all []int
	for one := range x.count() {
		if is[one] {
			all = append(all, one)
		}
	}
	return all
}

func (x plain) layouts() []api.Layout {
	var ls []api.Layout
	for c := range x.count() {
		l := api.Layout{Fields: x.fields(c), Virtual: x.virtual(c), Above: x.above(c)}
		switch {
		case x.isFace(c):
			l.Offset = -1
		case c >= 11:
			l.Offset = len(x.fields(x.superOf(c)))
		}
		ls = append(ls, l)
	}
	return ls
}

// load is what Load must answer.
func (x plain) load() ([]api.Layout, int, api.Errno) {
	if class, code := x.fault(); code != 0 {
		return nil, class, code
	}
	return x.layouts(), 0, 0
}
