package verify_test

import (
	"testing"

	"gneiss/api"
	"gneiss/types"
	"gneiss/verify"
)

func TestP18_1TheBeginning(t *testing.T) {
	args := list(api.TypeInt, api.TypeRefs, typeOf(square))
	beginning := list(api.TypeInt, api.TypeRefs, typeOf(square), api.TypeNone, api.TypeNone)
	for _, isStatic := range []bool{true, false} {
		if !isStatic {
			beginning = append(list(typeOf(mainClass)), beginning...)
		}
		p := program(method(t, 0, 0, "return"))
		p.Classes[0].Methods[1] = api.Method{Name: "under", Static: isStatic, Args: args, Locals: len(beginning), Stack: 1}
		m := &p.Classes[0].Methods[1]
		ls := loaded(t, p)
		for place, have := range beginning {
			for _, x := range append(list(api.TypeNone), everyType...) {
				asked := append([]int{}, beginning...)
				asked[place] = x
				m.Code, m.Maps = code16(t, "return"), []api.Map{mapAt(0, asked)}
				wantCode := api.ErrVerifyMap
				if types.Fits(ls, have, x) {
					wantCode = api.OK
				}
				if at, e := verify.Method(p, ls, mainClass, 1); at != 0 || e != wantCode {
					t.Errorf("local %d as %d: %d, %d; want %d", place, x, at, e, wantCode)
				}
			}
			m.Code, m.Maps = []api.Ins{{Op: api.InsLoad, A: place}, {Op: api.InsReturn}}, nil
			wantCode := api.OK
			if have == api.TypeNone {
				wantCode = api.ErrVerifyLocal
			}
			if at, e := verify.Method(p, ls, mainClass, 1); at != 0 || e != wantCode {
				t.Errorf("load %d: %d, %d; want %d", place, at, e, wantCode)
			}
		}
		m.Code, m.Maps = code16(t, "return"), []api.Map{mapAt(0, beginning, api.TypeInt)}
		if at, e := verify.Method(p, ls, mainClass, 1); at != 0 || e != api.ErrVerifyMap {
			t.Errorf("a value on the stack: %d, %d", at, e)
		}
	}
}

func TestP18_1TheReceiverIsTheClassThatHasTheMethod(t *testing.T) {
	p := program(method(t, 0, 0, "return"))
	p.Classes[square-11].Methods = []api.Method{{Name: "own", Locals: 1, Stack: 1,
		Code: code16(t, "load 0;getfield 13 0;print;load 0;callface 12 1;load 0;putstatic 11 1;return")}}
	ls := loaded(t, p)
	if at, e := verify.Method(p, ls, square, 0); at != 0 || e != api.OK {
		t.Errorf("%d, %d", at, e)
	}
	p.Classes[worker-11].Methods = []api.Method{{Name: "own", Locals: 1, Stack: 1,
		Code: code16(t, "load 0;start;load 0;callvirtual 9 0;load 0;getfield 13 0;return")}}
	if at, e := verify.Method(p, loaded(t, p), worker, 0); at != 5 || e != api.ErrVerifyType {
		t.Errorf("%d, %d", at, e)
	}
}

func TestP18_1WhatIsComeTo(t *testing.T) {
	none := list(api.TypeNone)
	for _, one := range []struct {
		m     api.Method
		place int
		code  api.Errno
	}{
		// Behind what ends there must be a map, and whatever it tells is so.
		{method(t, 1, 1, "return;return"), 1, api.ErrVerifyMap},
		{method(t, 1, 1, "goto 0;return", mapAt(0, none)), 1, api.ErrVerifyMap},
		{method(t, 1, 1, "null;throw;return"), 2, api.ErrVerifyMap},
		{giving(api.TypeInt, method(t, 1, 1, "int 1;giveint;int 1;giveint")), 2, api.ErrVerifyMap},
		{giving(api.TypeInts, method(t, 1, 1, "null;giveref;null;giveref")), 2, api.ErrVerifyMap},
		{method(t, 1, 1, "return;load 0;print;return", mapAt(1, list(api.TypeInt))), 0, api.OK},
		{method(t, 1, 1, "return;load 0;start;return", mapAt(1, list(api.TypeInt))), 2, api.ErrVerifyType},
		{method(t, 1, 2, "return;pop;pop;return", mapAt(1, none, api.TypeInt, api.TypeNull)), 0, api.OK},
		// Behind what does not end there may be one, and what comes must fit it.
		{method(t, 1, 1, "int 1;store 0;load 0;print;return"), 0, api.OK},
		{method(t, 1, 1, "int 1;store 0;load 0;print;return", mapAt(2, list(api.TypeInt))), 0, api.OK},
		{method(t, 1, 1, "int 1;store 0;load 0;print;return", mapAt(2, none)), 2, api.ErrVerifyLocal},
		{method(t, 1, 1, "int 1;store 0;load 0;print;return", mapAt(2, list(api.TypeNull))), 2, api.ErrVerifyMap},
		{method(t, 1, 1, "int 1;store 0;load 0;print;return", mapAt(2, none, api.TypeInt)), 2, api.ErrVerifyMap},
		{method(t, 1, 1, "int 1;store 0;load 0;print;return", mapAt(1, none)), 1, api.ErrVerifyMap},
		{method(t, 1, 1, "new 14;store 0;load 0;getfield 13 0;pop;return", mapAt(2, list(typeOf(shape)))), 0, api.OK},
		{method(t, 1, 1, "new 13;store 0;load 0;getfield 13 0;pop;return", mapAt(2, list(typeOf(square)))), 2, api.ErrVerifyMap},
		{method(t, 1, 1, "new 14;store 0;load 0;getfield 13 0;pop;return", mapAt(2, list(typeOf(api.ClassObject)))), 3,
			api.ErrVerifyType},
		{method(t, 1, 1, "null;store 0;load 0;getfield 13 0;pop;return", mapAt(2, list(api.TypeNull))), 0, api.OK},
		{method(t, 0, 1, "null;getfield 13 0;pop;return", mapAt(1, nil, typeOf(square))), 0, api.OK},
		// A jump that may not be taken goes on with what it left.
		{method(t, 0, 2, "int 1;int 2;ifzero 4;print;return", mapAt(4, nil)), 2, api.ErrVerifyMap},
		{method(t, 0, 2, "int 1;int 2;ifzero 4;print;pop;return", mapAt(4, nil, api.TypeInt)), 4, api.ErrVerifyMap},
		{method(t, 0, 2, "int 1;int 2;ifzero 4;nop;print;return", mapAt(4, nil, api.TypeInt)), 0, api.OK},
	} {
		want(t, one.m, one.place, one.code)
	}
}

func TestP18_1Jumps(t *testing.T) {
	for text, stack := range map[string][]int{
		"goto":   {},
		"ifzero": {api.TypeInt},
		"ifless": {api.TypeInt, api.TypeInt},
		"ifsame": {api.TypeNull, typeOf(square)},
		"ifnull": {typeOf(square)},
	} {
		// Ahead at 3, back at 1: with no map, with one that fits, and with some that do not.
		locals, left := list(typeOf(square), api.TypeInt), list(api.TypeInts, typeOf(square))
		full := append(append([]int{}, left...), stack...)
		behind := mapAt(2, locals, left...)
		for _, one := range []struct {
			m     api.Map
			place int
			code  api.Errno
		}{
			{mapAt(3, locals, left...), 0, api.OK},
			{mapAt(3, list(typeOf(shape), 0), typeOf(api.ClassObject), typeOf(shaped)), 0, api.OK},
			{mapAt(4, locals, left...), 1, api.ErrVerifyTarget},
			{mapAt(3, list(typeOf(square), api.TypeNull), left...), 1, api.ErrVerifyMap},
			{mapAt(3, list(typeOf(worker), 0), left...), 1, api.ErrVerifyMap},
			{mapAt(3, locals, left[:1]...), 1, api.ErrVerifyMap},
			{mapAt(3, locals, left[1], left[0]), 1, api.ErrVerifyMap},
			{mapAt(3, locals, append(append([]int{}, left...), api.TypeInt)...), 1, api.ErrVerifyMap},
		} {
			m := method(t, 2, 4, "return;"+text+" 3;return;nop;return", mapAt(1, locals, full...), behind, one.m)
			want(t, m, one.place, one.code)
		}
		back := method(t, 2, 4, "return;nop;nop;"+text+" 1;return", mapAt(1, locals, left...), mapAt(3, locals, full...),
			mapAt(4, locals, left...))
		if len(stack) == 0 {
			wantTaken(t, back)
		} else {
			want(t, back, 3, api.ErrVerifyMap) // what comes to 3 is not full
			back.Code[2] = api.Ins{Op: api.InsReturn}
			wantTaken(t, back)
			back.Maps[0].Stack = append(back.Maps[0].Stack, api.TypeInt)
			want(t, back, 3, api.ErrVerifyMap)
		}
		itself := method(t, 2, 4, "return;"+text+" 1;return", mapAt(1, locals, full...), behind)
		if len(stack) == 0 {
			wantTaken(t, itself)
		} else {
			want(t, itself, 1, api.ErrVerifyMap)
		}
	}
}

func TestP18_1HandlersAsk(t *testing.T) {
	catch := func(at int, locals ...int) api.Map { return mapAt(at, locals, typeOf(api.ClassThrowable)) }
	from := func(from, to, at int) api.Handler { return handler(from, to, at, api.ClassThrowable) }
	// Local 0 is none at 0 and 1, an int from 2 on, a square from 4 on; the handler is at 7.
	const texts = "int 1;store 0;new 14;store 0;nop;nop;return;pop;return"
	for _, one := range []struct {
		m     api.Method
		place int
		code  api.Errno
	}{
		{method(t, 1, 1, texts, from(0, 7, 7), catch(7, api.TypeNone)), 0, api.OK},
		{method(t, 1, 1, texts, from(0, 1, 7), catch(7, api.TypeInt)), 0, api.ErrVerifyTable},
		{method(t, 1, 1, texts, from(1, 2, 7), catch(7, api.TypeInt)), 1, api.ErrVerifyTable},
		{method(t, 1, 1, texts, from(2, 3, 7), catch(7, api.TypeInt)), 0, api.OK},
		// Place 3 has the int, and stores something else.
		{method(t, 1, 1, texts, from(2, 4, 7), catch(7, api.TypeInt)), 3, api.ErrVerifyTable},
		{method(t, 1, 1, texts, from(4, 5, 7), catch(7, api.TypeInt)), 4, api.ErrVerifyTable},
		{method(t, 1, 1, texts, from(3, 5, 7), catch(7, typeOf(square))), 3, api.ErrVerifyTable},
		{method(t, 1, 1, texts, from(4, 7, 7), catch(7, typeOf(square))), 0, api.OK},
		{method(t, 1, 1, texts, from(4, 7, 7), catch(7, typeOf(shape))), 0, api.OK},
		{method(t, 1, 1, texts, from(4, 7, 7), catch(7, typeOf(shaped))), 0, api.OK},
		{method(t, 1, 1, texts, from(4, 7, 7), catch(7, typeOf(worker))), 4, api.ErrVerifyTable},
		{method(t, 1, 1, texts, from(6, 7, 7), catch(7, typeOf(worker))), 6, api.ErrVerifyTable},
		// Place 7, too, is what a handler may cover, in the state of its own map.
		{method(t, 1, 1, texts, from(7, 9, 7), catch(7, typeOf(worker))), 0, api.OK},
		// All that cover a place, in their row.
		{method(t, 1, 1, texts, from(0, 9, 7), from(2, 3, 7), from(5, 6, 7), catch(7, api.TypeNone)), 0, api.OK},
		{method(t, 1, 1, texts+";pop;return", from(0, 7, 7), from(5, 6, 9), catch(7, 0), catch(9, api.TypeInt)), 5, api.ErrVerifyTable},
		{method(t, 1, 1, texts+";pop;return", from(5, 6, 9), from(4, 7, 7), catch(7, api.TypeInt), catch(9, 0)), 4, api.ErrVerifyTable},
		// A map within what is covered tells the state there.
		{method(t, 1, 1, texts, from(4, 7, 7), mapAt(5, list(typeOf(shape))), catch(7, typeOf(shape))), 0, api.OK},
		{method(t, 1, 1, texts, from(4, 7, 7), mapAt(5, list(typeOf(shape))), catch(7, typeOf(square))), 5, api.ErrVerifyTable},
	} {
		want(t, one.m, one.place, one.code)
	}
}

func TestP18_1StoresWithinHandlers(t *testing.T) {
	catch := mapAt(5, list(typeOf(shape), api.TypeNone), typeOf(trouble))
	of := func(value string, local string, from, to int) api.Method {
		return method(t, 2, 1, "new 14;store 0;"+value+";store "+local+";return;pop;return", handler(from, to, 5, trouble), catch)
	}
	wantTaken(t, of("new 13", "0", 3, 4))
	wantTaken(t, of("null", "0", 2, 5))
	wantTaken(t, of("int 1", "1", 3, 4))
	want(t, of("int 1", "0", 3, 4), 3, api.ErrVerifyTable)
	want(t, of("new 0", "0", 2, 4), 3, api.ErrVerifyTable)
	wantTaken(t, of("int 1", "0", 2, 3))
	want(t, of("int 1", "0", 4, 5), 4, api.ErrVerifyTable)
	want(t, of("int 1", "0", 1, 3), 1, api.ErrVerifyTable)
}

func TestP18_1TheFirstFaultOfAPlace(t *testing.T) {
	catch := mapAt(4, list(api.TypeInt), typeOf(api.ClassThrowable))
	cover := handler(2, 3, 4, api.ClassThrowable)
	of := func(stack int, text string, maps ...any) api.Method {
		return method(t, 1, stack, "nop;nop;"+text+";return;pop;return", append(append([]any{cover}, maps...), catch)...)
	}
	// A map that is not fit, then a handler's locals, then values that are lacking.
	want(t, of(1, "pop", mapAt(2, list(api.TypeNull))), 2, api.ErrVerifyMap)
	want(t, of(1, "pop", mapAt(2, list(api.TypeNone))), 2, api.ErrVerifyTable)
	want(t, of(1, "pop"), 2, api.ErrVerifyTable)
	want(t, of(1, "load 0"), 2, api.ErrVerifyTable)
	// Values that are lacking, then those of a wrong type.
	want(t, method(t, 0, 2, "null;arith add;return"), 1, api.ErrVerifyStack)
	want(t, method(t, 0, 2, "null;int 1;arith add;return"), 2, api.ErrVerifyType)
	want(t, method(t, 0, 2, "null;ifless 9;return;return;return;return;return;return;return;return"), 1, api.ErrVerifyStack)
	want(t, giving(api.TypeInt, method(t, 0, 2, "giveref")), 0, api.ErrVerifyStack)
	// Of a wrong type, then a jump's target.
	want(t, method(t, 0, 2, "null;ifzero 0;return"), 1, api.ErrVerifyType)
	want(t, method(t, 0, 2, "int 1;ifzero 0;return"), 1, api.ErrVerifyTarget)
	// A local that is none, then more values than there is room for.
	want(t, method(t, 1, 0, "load 0;return"), 0, api.ErrVerifyLocal)
	want(t, method(t, 1, 1, "int 1;store 0;load 0;load 0;return"), 3, api.ErrVerifyStack)
	// More values than there is room for, of what is popped from a full stack.
	want(t, method(t, 0, 1, "int 1;dup;return"), 1, api.ErrVerifyStack)
	wantTaken(t, method(t, 0, 2, "int 1;dup;return"))
	wantTaken(t, method(t, 0, 1, "int 1;newints;length;arith neg;print;return"))
	// Places come first, whatever their faults.
	want(t, method(t, 1, 1, "load 0;pop;pop;return"), 0, api.ErrVerifyLocal)
	want(t, method(t, 1, 1, "pop;load 0;return;return"), 0, api.ErrVerifyStack)
	want(t, method(t, 1, 1, "return;pop;load 0;return"), 1, api.ErrVerifyMap)
}

func TestP18_1WhatIsNeverComeToIsAskedToo(t *testing.T) {
	want(t, method(t, 0, 1, "return;nop;pop;return", mapAt(1, nil)), 2, api.ErrVerifyStack)
	want(t, method(t, 1, 1, "goto 3;nop;load 0;return", mapAt(1, list(0)), mapAt(3, list(0))), 2, api.ErrVerifyLocal)
}
