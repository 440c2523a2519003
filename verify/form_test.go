package verify_test

import (
	"math"
	"slices"
	"testing"

	"gneiss/api"
	"gneiss/verify"
)

func TestP18_1WhatLayer16Refuses(t *testing.T) {
	for _, one := range []struct {
		code  []api.Ins
		place int
	}{
		{nil, 0},
		{[]api.Ins{{Op: api.InsNop}}, 1},
		{[]api.Ins{{Op: api.InsNop}, {Op: api.InsNop}}, 2},
		{[]api.Ins{{Op: -1}, {Op: api.InsReturn}}, 0},
		{[]api.Ins{{Op: api.InsNop}, {Op: 47}, {Op: api.InsReturn}}, 1},
		{[]api.Ins{{Op: api.InsNop}, {Op: api.InsNop, B: 1}, {Op: api.InsReturn}}, 1},
		{[]api.Ins{{Op: api.InsNop}, {Op: api.InsLoad, A: 2}, {Op: api.InsReturn}}, 1},
		{[]api.Ins{{Op: api.InsNop}, {Op: api.InsNop}, {Op: api.InsGoto, A: 3}}, 2},
		{[]api.Ins{{Op: api.InsNew, A: api.ClassWeak}, {Op: api.InsReturn}}, 0},
		// A value that is lacking stands ahead, but the instructions are asked for first.
		{[]api.Ins{{Op: api.InsPop}, {Op: api.InsPop}, {Op: api.InsGetField, A: shape, B: 5}, {Op: api.InsReturn}}, 2},
	} {
		want(t, api.Method{Static: true, Locals: 2, Stack: 2, Code: one.code}, one.place, api.ErrVerifyForm)
	}
}

func TestP18_1NoMethod(t *testing.T) {
	p := program(method(t, 0, 0, "pop;return"))
	ls := loaded(t, p)
	for _, class := range append(slices.Clone(extremes), 12, 13, 14, 15, 16) {
		for _, number := range extremes {
			wantAt, wantCode := 0, api.ErrVerifyForm
			switch {
			case class == mainClass && number == 1:
				wantCode = api.ErrVerifyStack
			case class == mainClass && number >= 0 && number < 5, class == shape && number >= 0 && number < 3:
				wantCode = api.OK
			}
			if at, e := verify.Method(p, ls, class, number); at != wantAt || e != wantCode {
				t.Errorf("Method(.., %d, %d) = %d, %d; want %d, %d", class, number, at, e, wantAt, wantCode)
			}
		}
	}
}

func TestP18_1AProgramThatLayer15Refuses(t *testing.T) {
	ls := loaded(t, program(method(t, 0, 0, "return")))
	for _, spoil := range []func(p *api.Program){
		func(p *api.Program) { p.Main = 12 },
		func(p *api.Program) { p.Classes[3].Super = 14 },
		func(p *api.Program) { p.Classes[3].Super = 99 },
		func(p *api.Program) { p.Classes[0].Statics[0].Type = api.TypeNone },
	} {
		p := program(method(t, 0, 1, "int 1;arith add;return"))
		spoil(&p)
		if at, e := verify.Method(p, ls, mainClass, 1); at != 0 || e != api.ErrVerifyForm {
			t.Errorf("%d, %d", at, e)
		}
		if c, m, at, e := verify.Program(p, ls); c != mainClass || m != 0 || at != 0 || e != api.ErrVerifyForm {
			t.Errorf("%d, %d, %d, %d", c, m, at, e)
		}
	}
}

func TestP18_1TheFormOfMaps(t *testing.T) {
	const stop = "nop;nop;return"
	locals := list(api.TypeNone, api.TypeNone)
	for _, one := range []struct {
		maps  []api.Map
		place int
		code  api.Errno
	}{
		{nil, 0, api.OK},
		{[]api.Map{mapAt(0, locals)}, 0, api.OK},
		{[]api.Map{mapAt(2, locals)}, 0, api.OK},
		{[]api.Map{mapAt(0, locals), mapAt(1, locals), mapAt(2, locals)}, 0, api.OK},
		{[]api.Map{mapAt(3, locals)}, 3, api.ErrVerifyForm},
		{[]api.Map{mapAt(-1, locals)}, -1, api.ErrVerifyForm},
		{[]api.Map{mapAt(math.MinInt, locals)}, math.MinInt, api.ErrVerifyForm},
		{[]api.Map{mapAt(math.MaxInt, locals)}, math.MaxInt, api.ErrVerifyForm},
		{[]api.Map{mapAt(1, locals), mapAt(1, locals)}, 1, api.ErrVerifyForm},
		{[]api.Map{mapAt(2, locals), mapAt(1, locals)}, 1, api.ErrVerifyForm},
		{[]api.Map{mapAt(0, locals), mapAt(2, locals), mapAt(0, locals)}, 0, api.ErrVerifyForm},
		{[]api.Map{mapAt(1, locals[:1])}, 1, api.ErrVerifyForm},
		{[]api.Map{mapAt(1, nil)}, 1, api.ErrVerifyForm},
		{[]api.Map{mapAt(1, list(0, 0, 0))}, 1, api.ErrVerifyForm},
		// The stack of 3 is more than the method's; one of 2 does not fit, but has the form.
		{[]api.Map{mapAt(1, locals, 1, 1, 1)}, 1, api.ErrVerifyForm},
		{[]api.Map{mapAt(1, locals, 1, 1)}, 1, api.ErrVerifyMap},
		{[]api.Map{mapAt(1, locals, 1, 0)}, 1, api.ErrVerifyForm},
		{[]api.Map{mapAt(1, locals, 0, 1)}, 1, api.ErrVerifyForm},
		// The first map that is wrong, whatever is wrong with it.
		{[]api.Map{mapAt(0, locals), mapAt(1, locals, 0), mapAt(9, locals)}, 1, api.ErrVerifyForm},
		{[]api.Map{mapAt(0, locals), mapAt(9, locals), mapAt(1, locals, 0)}, 9, api.ErrVerifyForm},
		{[]api.Map{mapAt(0, locals, 1), mapAt(1, locals), mapAt(2, nil)}, 2, api.ErrVerifyForm},
	} {
		m := method(t, 2, 2, stop)
		m.Maps = one.maps
		want(t, m, one.place, one.code)
	}
}

func TestP18_1TheTypesOfMaps(t *testing.T) {
	isType := func(x int) bool {
		return x >= api.TypeInt && x <= api.TypeRefs || x >= api.TypeClass && x < typeOf(behindAll)
	}
	for _, x := range append(slices.Clone(extremes), 6, 7, 8, 9, 12, 13, 14, 18, 25, 28, 29, 30, 31, 32) {
		wantLocal, wantStack := 0, 0
		codeLocal, codeStack := api.OK, api.OK
		if !isType(x) && x != api.TypeNone {
			wantLocal, codeLocal = 1, api.ErrVerifyForm
		}
		if !isType(x) {
			wantStack, codeStack = 1, api.ErrVerifyForm
		}
		want(t, method(t, 2, 2, "return;nop;return", mapAt(1, list(1, x))), wantLocal, codeLocal)
		want(t, method(t, 2, 2, "return;nop;return", mapAt(1, list(1, 1), 1, x)), wantStack, codeStack)
	}
}

func TestP18_1TheFormOfHandlers(t *testing.T) {
	// Places 0 to 4; what is thrown goes to 3.
	of := func(h api.Handler, stack ...int) api.Method {
		return method(t, 1, 2, "nop;nop;return;pop;return", h, mapAt(3, list(api.TypeNone), stack...))
	}
	throwable := typeOf(api.ClassThrowable)
	for _, one := range []struct {
		m     api.Method
		place int
		code  api.Errno
	}{
		{of(handler(0, 3, 3, api.ClassThrowable), throwable), 0, api.OK},
		{of(handler(0, 5, 3, api.ClassThrowable), throwable), 0, api.OK},
		{of(handler(4, 5, 3, api.ClassThrowable), throwable), 0, api.OK},
		{of(handler(0, 6, 3, api.ClassThrowable), throwable), 0, api.ErrVerifyTable},
		{of(handler(2, 6, 3, api.ClassThrowable), throwable), 2, api.ErrVerifyTable},
		{of(handler(5, 6, 3, api.ClassThrowable), throwable), 5, api.ErrVerifyTable},
		{of(handler(0, math.MaxInt, 3, api.ClassThrowable), throwable), 0, api.ErrVerifyTable},
		{of(handler(1, 1, 3, api.ClassThrowable), throwable), 1, api.ErrVerifyTable},
		{of(handler(2, 1, 3, api.ClassThrowable), throwable), 2, api.ErrVerifyTable},
		{of(handler(5, 5, 3, api.ClassThrowable), throwable), 5, api.ErrVerifyTable},
		{of(handler(1, -1, 3, api.ClassThrowable), throwable), 1, api.ErrVerifyTable},
		{of(handler(-1, 1, 3, api.ClassThrowable), throwable), -1, api.ErrVerifyTable},
		{of(handler(math.MinInt, 1, 3, api.ClassThrowable), throwable), math.MinInt, api.ErrVerifyTable},
		{of(handler(math.MaxInt, 1, 3, api.ClassThrowable), throwable), math.MaxInt, api.ErrVerifyTable},
		{of(handler(0, 1, 2, api.ClassThrowable), throwable), 0, api.ErrVerifyTable},
		{of(handler(0, 1, 4, api.ClassThrowable), throwable), 0, api.ErrVerifyTable},
		{of(handler(0, 1, -1, api.ClassThrowable), throwable), 0, api.ErrVerifyTable},
		{of(handler(0, 1, 5, api.ClassThrowable), throwable), 0, api.ErrVerifyTable},
		{of(handler(1, 2, 3, api.ClassThrowable)), 1, api.ErrVerifyTable},
		{of(handler(1, 2, 3, api.ClassThrowable), throwable, throwable), 1, api.ErrVerifyTable},
		{of(handler(1, 2, 3, api.ClassThrowable), typeOf(api.ClassObject)), 1, api.ErrVerifyTable},
		{of(handler(1, 2, 3, api.ClassThrowable), typeOf(trouble)), 1, api.ErrVerifyTable},
		{of(handler(1, 2, 3, api.ClassThrowable), api.TypeNull), 1, api.ErrVerifyTable},
		{of(handler(1, 2, 3, trouble), throwable), 1, api.ErrVerifyTable},
		{of(handler(1, 2, 3, trouble), typeOf(trouble)), 0, api.OK},
	} {
		want(t, one.m, one.place, one.code)
	}
}

func TestP18_1WhatHandlersCatch(t *testing.T) {
	for _, class := range append(slices.Clone(extremes), 6, 7, 8, 9, 12, 13, 14) {
		stack := typeOf(api.ClassThrowable)
		if class >= 0 && class < behindAll {
			stack = typeOf(class)
		}
		m := method(t, 0, 1, "nop;return;pop;return", handler(1, 2, 2, class), mapAt(2, nil, stack))
		if class >= api.ClassThrowable && class <= api.ClassMemoryFault || class == trouble {
			wantTaken(t, m)
		} else {
			want(t, m, 1, api.ErrVerifyTable)
		}
	}
}

func TestP18_1TheFirstHandlerThatIsWrong(t *testing.T) {
	right := handler(0, 1, 2, api.ClassThrowable)
	for _, one := range []struct {
		table []api.Handler
		place int
	}{
		{[]api.Handler{right, handler(1, 1, 2, api.ClassThrowable)}, 1},
		{[]api.Handler{right, handler(2, 1, 2, api.ClassThrowable), handler(0, 1, 2, api.ClassObject)}, 2},
		{[]api.Handler{handler(0, 1, 2, api.ClassObject), handler(-5, 1, 2, api.ClassThrowable)}, 0},
		{[]api.Handler{right, handler(-5, 1, 2, api.ClassThrowable), handler(0, 1, 2, api.ClassObject)}, -5},
	} {
		m := method(t, 0, 1, "pop;return;pop;return", mapAt(2, nil, typeOf(api.ClassThrowable)))
		m.Table = one.table
		want(t, m, one.place, api.ErrVerifyTable)
	}
}

func TestP18_1WhatIsAskedFirst(t *testing.T) {
	// Each method has a fault of a later part at an earlier place.
	noMap, catches := mapAt(9, nil), mapAt(2, nil, typeOf(api.ClassThrowable))
	noHandler := handler(1, 0, 2, api.ClassThrowable)
	want(t, method(t, 0, 1, "pop;return;pop;load 0", noMap, noHandler), 3, api.ErrVerifyForm)
	want(t, method(t, 0, 1, "pop;return;pop;return", catches, noMap, noHandler), 9, api.ErrVerifyForm)
	want(t, method(t, 0, 1, "pop;return;pop;return", catches, noHandler), 1, api.ErrVerifyTable)
	want(t, method(t, 0, 1, "pop;return;pop;return", catches), 0, api.ErrVerifyStack)
}
