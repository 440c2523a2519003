package verify_test

import (
	"slices"
	"testing"

	"gneiss/api"
	"gneiss/load"
	"gneiss/verify"
)

func wantProgram(t *testing.T, p api.Program, ls []api.Layout, class, method, place int, code api.Errno) {
	t.Helper()
	if c, m, at, e := verify.Program(p, ls); c != class || m != method || at != place || e != code {
		t.Errorf("Program = %d, %d, %d, %d; want %d, %d, %d, %d", c, m, at, e, class, method, place, code)
	}
}

func TestP18_2AllIsRight(t *testing.T) {
	p := program(method(t, 1, 2, "nop;return", mapAt(1, list(api.TypeNone))))
	wantProgram(t, p, loaded(t, p), 0, 0, 0, api.OK)
	wantProgram(t, api.Program{}, nil, 0, 0, 0, api.OK)
}

func TestP18_2TheFirstMethodInTheirRow(t *testing.T) {
	type spot struct{ class, method, place int }
	var all []spot
	p := program(method(t, 0, 0, "return"))
	for c, class := range p.Classes {
		for m := range class.Methods {
			if !class.Face {
				all = append(all, spot{11 + c, m, len(all)})
			}
		}
	}
	if len(all) != 8 {
		t.Fatal(all)
	}
	// From the last one on each gets a fault, at an earlier place than those behind it.
	for _, one := range slices.Backward(all) {
		m := &p.Classes[one.class-11].Methods[one.method]
		m.Code = append(make([]api.Ins, one.place), api.Ins{Op: api.InsArith}, api.Ins{Op: api.InsReturn})
		wantProgram(t, p, loaded(t, p), one.class, one.method, one.place, api.ErrVerifyStack)
	}
	// From the first one on each is mended; those that are left have faults at later places.
	for i, one := range all {
		p.Classes[one.class-11].Methods[one.method] = program(method(t, 0, 0, "return")).Classes[one.class-11].Methods[one.method]
		if i == len(all)-1 {
			wantProgram(t, p, loaded(t, p), 0, 0, 0, api.OK)
			break
		}
		wantProgram(t, p, loaded(t, p), all[i+1].class, all[i+1].method, all[i+1].place, api.ErrVerifyStack)
	}
}

func TestP18_2EachErrorIsTold(t *testing.T) {
	for _, one := range []struct {
		m     api.Method
		place int
		code  api.Errno
	}{
		{method(t, 0, 0, "return;nop"), 2, api.ErrVerifyForm},
		{method(t, 0, 0, "return", mapAt(-7, nil)), -7, api.ErrVerifyForm},
		{method(t, 0, 0, "nop;pop;return"), 1, api.ErrVerifyStack},
		{method(t, 0, 1, "null;print;return"), 1, api.ErrVerifyType},
		{method(t, 1, 1, "nop;nop;load 0;return"), 2, api.ErrVerifyLocal},
		{method(t, 0, 1, "return;return"), 1, api.ErrVerifyMap},
		{method(t, 0, 1, "return", handler(-9, 0, 0, 0)), -9, api.ErrVerifyTable},
		{method(t, 0, 1, "goto 0"), 0, api.ErrVerifyTarget},
	} {
		p := program(method(t, 0, 0, "return"))
		p.Classes[shape-11].Methods[1].Code = one.m.Code
		p.Classes[shape-11].Methods[1].Table = one.m.Table
		p.Classes[shape-11].Methods[1].Maps = one.m.Maps
		p.Classes[shape-11].Methods[1].Stack = one.m.Stack
		if one.code == api.ErrVerifyLocal {
			p.Classes[shape-11].Methods[1].Static = true
			p.Classes[shaped-11].Methods = p.Classes[shaped-11].Methods[:1]
		}
		wantProgram(t, p, loaded(t, p), shape, 1, one.place, one.code)
	}
}

func TestP18_2AFaceHasNothingToAskFor(t *testing.T) {
	p := program(method(t, 0, 0, "return"))
	p.Classes = append(p.Classes, api.Class{Name: "More", Face: true, Methods: []api.Method{{Name: "a", Locals: -5, Stack: -5}}})
	wantProgram(t, p, loaded(t, p), 0, 0, 0, api.OK)
}

func TestP18_2OfWhatLayer15Refuses(t *testing.T) {
	ends := []api.Ins{{Op: api.InsReturn}}
	right := api.Method{Name: "main", Static: true, Code: ends}
	for _, one := range []struct {
		classes       []api.Class
		class, method int
		code          api.Errno
	}{
		{nil, 0, 0, api.OK},
		{[]api.Class{{Name: "A"}}, 0, 0, api.OK},
		{[]api.Class{{Name: "A", Face: true, Methods: []api.Method{right}}}, 0, 0, api.OK},
		{[]api.Class{{Name: "A", Face: true, Methods: []api.Method{right}}, {Name: "B"}, {Name: "C", Methods: []api.Method{right}}},
			13, 0, api.ErrVerifyForm},
		{[]api.Class{{Name: "A", Super: 99, Methods: []api.Method{{Name: "m", Code: ends}, right}}}, 11, 0, api.ErrVerifyForm},
	} {
		p := api.Program{Main: 99, Classes: one.classes}
		if _, _, e := load.Load(p); e == api.OK {
			t.Fatal("taken")
		}
		ls := loaded(t, program(method(t, 0, 0, "return")))
		wantProgram(t, p, ls, one.class, one.method, 0, one.code)
		wantProgram(t, p, nil, one.class, one.method, 0, one.code)
	}
}

func TestP18_2AsMethodByMethod(t *testing.T) {
	r := random(182)
	p := program(method(t, 0, 0, "return"))
	b := &builder{random: &r, p: p, ls: loaded(t, p)}
	for range 300 {
		p := program(method(t, 0, 0, "return"))
		for range 1 + r.next(3) {
			b.build()
			if r.once(2) {
				b.spoil()
			}
			b.m.Name, b.m.Static = string(rune('a'+len(p.Classes[0].Methods))), true
			p.Classes[0].Methods = append(p.Classes[0].Methods, cloned(b.m))
		}
		wantClass, wantMethod, wantAt, wantCode := 0, 0, 0, api.OK
		for m := len(p.Classes[0].Methods) - 1; m >= 0; m-- {
			if at, e := verify.Method(p, b.ls, mainClass, m); e != api.OK {
				wantClass, wantMethod, wantAt, wantCode = mainClass, m, at, e
			}
		}
		wantProgram(t, p, b.ls, wantClass, wantMethod, wantAt, wantCode)
	}
}
