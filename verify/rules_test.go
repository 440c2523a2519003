package verify_test

import (
	"math"
	"reflect"
	"slices"
	"strconv"
	"sync"
	"testing"

	"gneiss/api"
	"gneiss/load"
	"gneiss/verify"
)

// spare is a list of the same items with room behind them in which something stands.
func spare[T any](items []T, behind T) []T {
	all := append(slices.Clone(items), behind, behind, behind)
	return all[:len(items)]
}

func TestR4NothingIsChanged(t *testing.T) {
	roomy := func() api.Program {
		m := method(t, 2, 3, "int 1;store 0;new 14;store 1;load 1;load 0;callvirtual 13 0;pop;return;store 0;goto 0;load 0;pop;return",
			handler(0, 8, 9, api.ClassThrowable), mapAt(0, list(api.TypeNone, api.TypeNone)), mapAt(4, list(1, typeOf(shape))),
			mapAt(9, list(api.TypeNone, api.TypeNone), typeOf(api.ClassThrowable)), mapAt(11, list(typeOf(square), 1), 1))
		for i := range m.Maps {
			m.Maps[i].Locals, m.Maps[i].Stack = spare(m.Maps[i].Locals, -99), spare(m.Maps[i].Stack, -99)
		}
		m.Maps, m.Table = spare(m.Maps, api.Map{At: -99}), spare(m.Table, api.Handler{At: -99})
		m.Code = spare(m.Code, api.Ins{Op: -99})
		p := program(m)
		called := &p.Classes[shape-11].Methods[0]
		called.Args = spare(called.Args, -99)
		return p
	}
	wholeOf := func(p api.Program) []any {
		m := p.Classes[0].Methods[1]
		all := []any{m.Maps[:cap(m.Maps)], m.Table[:cap(m.Table)], m.Code[:cap(m.Code)]}
		for _, x := range m.Maps {
			all = append(all, x.Locals[:cap(x.Locals)], x.Stack[:cap(x.Stack)])
		}
		args := p.Classes[shape-11].Methods[0].Args
		return append(all, args[:cap(args)])
	}
	p, same := roomy(), roomy()
	ls, sameLs := loaded(t, p), loaded(t, p)
	if at, e := verify.Method(p, ls, mainClass, 1); at != 0 || e != api.OK {
		t.Errorf("%d, %d", at, e)
	}
	wantProgram(t, p, ls, 0, 0, 0, api.OK)
	if !reflect.DeepEqual(p, same) || !reflect.DeepEqual(ls, sameLs) || !reflect.DeepEqual(wholeOf(p), wholeOf(same)) {
		t.Errorf("%v was %v", p, same)
	}
}

func TestR1OddLayouts(t *testing.T) {
	r := random(81)
	p := program(method(t, 0, 0, "return"))
	ls := loaded(t, p)
	b := &builder{random: &r, p: p, ls: ls}
	odd := slices.Clone(ls)
	for i := range odd {
		odd[i] = api.Layout{Offset: i%3 - 1, Above: []int{math.MinInt, i + 1, -1, math.MaxInt}}
	}
	for range 300 {
		b.build()
		p.Classes[0].Methods[1] = b.m
		for _, some := range [][]api.Layout{nil, ls[:1], ls[:13], odd, append(slices.Clone(ls), ls...)} {
			at, e := verify.Method(p, some, mainClass, 1)
			if e == api.OK && at != 0 {
				t.Errorf("%d, %d", at, e)
			}
			verify.Program(p, some)
		}
	}
}

func TestR1OddNumbers(t *testing.T) {
	ls := loaded(t, program(method(t, 0, 0, "return")))
	try := func(m api.Method) {
		p := program(m)
		at, e := verify.Method(p, ls, mainClass, 1)
		c, n, place, code := verify.Program(p, ls)
		if code == api.OK && (c != 0 || n != 0 || place != 0) || n == 1 && (at != place || e != code) {
			t.Errorf("%+v: %d, %d; %d, %d, %d, %d", m, at, e, c, n, place, code)
		}
	}
	for _, x := range extremes {
		try(api.Method{Static: true, Locals: x, Code: code16(t, "return")})
		try(api.Method{Locals: x, Stack: 1, Code: code16(t, "load 0;store 0;return")})
		try(api.Method{Static: true, Locals: 1, Stack: x, Code: code16(t, "int 1;pop;return"), Maps: []api.Map{mapAt(0, list(0))}})
		try(api.Method{Static: true, Ret: x, Stack: 1, Code: code16(t, "null;giveref")})
		try(api.Method{Static: true, Args: list(x), Locals: 1, Stack: 1, Code: code16(t, "load 0;return")})
		for _, y := range extremes {
			try(api.Method{Static: true, Stack: 1, Code: []api.Ins{{Op: x, A: y}, {Op: api.InsReturn}}})
			try(api.Method{Static: true, Stack: 1, Code: code16(t, "nop;return"), Maps: []api.Map{mapAt(x, nil), mapAt(y, nil)}})
			try(api.Method{Static: true, Stack: 1, Code: code16(t, "nop;return"), Maps: []api.Map{mapAt(1, nil, 17)},
				Table: []api.Handler{handler(x, y, 1, 1), handler(0, 1, x, y)}})
		}
	}
	for _, locals := range []int{25, 26, 1 << 20, 1 << 40, math.MaxInt} {
		try(api.Method{Static: true, Locals: locals, Code: code16(t, "return")})
	}
}

func TestR5FromSeveralGoroutines(t *testing.T) {
	p := program(method(t, 1, 1, "int 1;store 0;load 0;start;return", mapAt(2, list(api.TypeInt))))
	ls := loaded(t, p)
	var all sync.WaitGroup
	for range 8 {
		all.Go(func() {
			for range 50 {
				wantProgram(t, p, ls, mainClass, 1, 3, api.ErrVerifyType)
			}
		})
	}
	all.Wait()
}

// deepProgram is as big as one may be: 40 classes, each below the one ahead, of 24 methods of the greatest size.
func deepProgram(t *testing.T) api.Program {
	p := api.Program{Main: mainClass}
	for c := range api.MaxClasses {
		class := api.Class{Name: "C" + strconv.Itoa(c), Super: max(0, c+10)}
		if c == 0 {
			class.Super = api.ClassObject
		}
		for m := range api.MaxMethods {
			class.Methods = append(class.Methods, bigMethod("m"+strconv.Itoa(c)+"_"+strconv.Itoa(m), 11+c))
		}
		p.Classes = append(p.Classes, class)
	}
	p.Classes[0].Methods[0].Args, p.Classes[0].Methods[0].Static = nil, true
	p.Classes[0].Methods[0].Maps, p.Classes[0].Methods[0].Table = nil, nil
	p.Classes[0].Methods[0].Code = code16(t, "return")
	return p
}

// bigMethod has 300 instructions, 24 locals of its own class, 16 handlers that ask for ClassObject's at all places but the
// last two, and 64 maps.
func bigMethod(name string, class int) api.Method {
	m := api.Method{Name: name, Locals: api.MaxLocals, Stack: api.MaxStack}
	own, super := make([]int, api.MaxLocals), make([]int, api.MaxLocals)
	for i := range own {
		own[i], super[i] = typeOf(class), typeOf(mainClass)
	}
	for i := 1; i < api.MaxLocals; i++ {
		m.Code = append(m.Code, api.Ins{Op: api.InsLoad}, api.Ins{Op: api.InsStore, A: i})
	}
	for len(m.Code) < api.MaxCode-2 {
		m.Code = append(m.Code, api.Ins{Op: api.InsLoad, A: 3}, api.Ins{Op: api.InsStore, A: 5})
	}
	m.Code = append(m.Code, api.Ins{Op: api.InsReturn}, api.Ins{Op: api.InsThrow})
	for i := range api.MaxMaps - 1 {
		m.Maps = append(m.Maps, api.Map{At: 46 + 4*i, Locals: own})
	}
	m.Maps = append(m.Maps, api.Map{At: api.MaxCode - 1, Locals: super, Stack: []int{typeOf(api.ClassThrowable)}})
	for range api.MaxTable {
		m.Table = append(m.Table, handler(46, api.MaxCode-1, api.MaxCode-1, api.ClassThrowable))
	}
	return m
}

func TestSizeOfAWholeProgram(t *testing.T) {
	p := deepProgram(t)
	ls, class, e := load.Load(p)
	if e != api.OK {
		t.Fatalf("class %d: %d", class, e)
	}
	wantProgram(t, p, ls, 0, 0, 0, api.OK)
	last := &p.Classes[api.MaxClasses-1].Methods[api.MaxMethods-1]
	last.Code[api.MaxCode-1] = api.Ins{Op: api.InsReturn}
	last.Code[api.MaxCode-3] = api.Ins{Op: api.InsPrint}
	wantProgram(t, p, ls, 50, 23, api.MaxCode-3, api.ErrVerifyType)
	if at, e := verify.Method(p, ls, 50, 23); at != api.MaxCode-3 || e != api.ErrVerifyType {
		t.Errorf("%d, %d", at, e)
	}
}
