package code_test

import (
	"math"
	"reflect"
	"slices"
	"testing"

	"gneiss/api"
	"gneiss/code"
	"gneiss/load"
)

func TestP16_2NoOperands(t *testing.T) {
	for op := range 47 {
		if counts[op] > 0 {
			continue
		}
		wantPairs(t, op, [2]int{0, 0})
	}
}

// An instruction of one operand, whose A is right here, has no B.
func TestP16_2NoSecondOperand(t *testing.T) {
	for op := range 47 {
		if counts[op] != 1 {
			continue
		}
		wantInsChecked(t, api.Ins{Op: op}, api.OK)
		for _, b := range extremes {
			if b != 0 {
				wantInsChecked(t, api.Ins{Op: op, B: b}, api.ErrCodeArgs)
			}
		}
	}
}

func TestP16_2OneOperand(t *testing.T) {
	isNumber := func(a int) bool { return a >= math.MinInt32 && a <= math.MaxInt32 }
	right := append(slices.DeleteFunc(slices.Clone(extremes), func(a int) bool { return !isNumber(a) }), numbers(3, 18)...)
	wantOnly(t, api.InsInt, 0, right, api.ErrCodeArgs)
	wantOnly(t, api.InsLoad, 0, numbers(0, 3), api.ErrCodeArgs)
	wantOnly(t, api.InsStore, 0, numbers(0, 3), api.ErrCodeArgs)
	wantOnly(t, api.InsArith, 0, numbers(0, 12), api.ErrCodeArgs)
	wantOnly(t, api.InsNew, 0, append(numbers(0, 10), mainClass, threadKind, emptyClass), api.ErrCodeArgs)
	wantOnly(t, api.InsIs, 0, numbers(0, behindAll), api.ErrCodeArgs)
	wantOnly(t, api.InsCast, 0, numbers(0, behindAll), api.ErrCodeArgs)
}

func TestP16_2Jumps(t *testing.T) {
	for _, op := range []int{api.InsGoto, api.InsIfZero, api.InsIfLess, api.InsIfSame, api.InsIfNull} {
		wantOnly(t, op, 0, numbers(0, 5), api.ErrCodeTarget)
		// That B is no operand of it is told ahead of its A.
		wantOnly(t, op, 1, nil, api.ErrCodeArgs)
	}
}

func TestP16_2Places(t *testing.T) {
	fields := [][2]int{{mainClass, 0}, {mainClass, 1}, {threadKind, 0}}
	statics := [][2]int{{mainClass, 0}, {mainClass, 1}, {mainClass, 2}}
	wantPairs(t, api.InsGetField, fields...)
	wantPairs(t, api.InsPutField, fields...)
	wantPairs(t, api.InsGetStatic, statics...)
	wantPairs(t, api.InsPutStatic, statics...)
}

func TestP16_2Calls(t *testing.T) {
	wantPairs(t, api.InsCallStatic, [2]int{mainClass, 0}, [2]int{mainClass, 2})
	wantPairs(t, api.InsCallVirtual, [2]int{mainClass, 1}, [2]int{mainClass, 3}, [2]int{threadKind, 0},
		[2]int{api.ClassThread, 0})
	wantPairs(t, api.InsCallFace, [2]int{plainFace, 0}, [2]int{plainFace, 1})
}

func TestP16_2NoInstruction(t *testing.T) {
	for _, op := range append(numbers(47, 100), extremes...) {
		if op >= 0 && op < 47 {
			continue
		}
		wantInsChecked(t, api.Ins{Op: op}, api.ErrCodeOp)
		wantInsChecked(t, api.Ins{Op: op, A: 5, B: 5}, api.ErrCodeOp)
	}
}

func TestP16_2TheEnd(t *testing.T) {
	wantChecked(t, program(), mainClass, 0, 0, api.ErrCodeTarget)
	wantChecked(t, program([]api.Ins{}...), mainClass, 0, 0, api.ErrCodeTarget)
	for op := range 47 {
		i := map[int]api.Ins{
			api.InsGetField: {Op: op, A: mainClass}, api.InsPutField: {Op: op, A: mainClass},
			api.InsGetStatic: {Op: op, A: mainClass}, api.InsPutStatic: {Op: op, A: mainClass},
			api.InsCallStatic: {Op: op, A: mainClass}, api.InsCallVirtual: {Op: op, A: api.ClassThread},
			api.InsCallFace: {Op: op, A: plainFace},
		}[op]
		i.Op = op
		for count := range 4 {
			instructions := append(make([]api.Ins, count), i)
			switch op {
			case api.InsGoto, api.InsReturn, api.InsGiveInt, api.InsGiveRef, api.InsThrow:
				wantChecked(t, program(instructions...), mainClass, 0, 0, api.OK)
			default:
				wantChecked(t, program(instructions...), mainClass, 0, count+1, api.ErrCodeTarget)
			}
		}
	}
}

// The first fault is told, whichever it is, and the end's behind all others.
func TestP16_2TheFirstFault(t *testing.T) {
	faults := []struct {
		ins  api.Ins
		code api.Errno
	}{
		{api.Ins{Op: 47, A: 1}, api.ErrCodeOp}, {api.Ins{Op: -1}, api.ErrCodeOp}, {api.Ins{Op: api.InsDup, A: 1}, api.ErrCodeArgs},
		{api.Ins{Op: api.InsLoad, A: 3}, api.ErrCodeArgs}, {api.Ins{Op: api.InsGoto, A: 7}, api.ErrCodeTarget},
		{api.Ins{Op: api.InsIfNull, A: -1}, api.ErrCodeTarget}, {api.Ins{Op: api.InsIfZero, A: -1, B: 1}, api.ErrCodeArgs},
	}
	for _, first := range faults {
		for _, second := range faults {
			for place := range 5 {
				instructions := make([]api.Ins, 7)
				instructions[place], instructions[place+1] = first.ins, second.ins
				wantChecked(t, program(instructions...), mainClass, 0, place, first.code)
				instructions[6] = second.ins
				wantChecked(t, program(instructions...), mainClass, 0, place, first.code)
			}
		}
	}
}

func TestP16_2NoMethod(t *testing.T) {
	end := api.Ins{Op: api.InsReturn}
	p := program(end)
	for _, m := range []struct{ class, method int }{{mainClass, 1}, {mainClass, 2}, {mainClass, 3}, {threadKind, 0}} {
		p.Classes[m.class-api.FirstClass].Methods[m.method].Code = []api.Ins{end}
	}
	methods := map[int]int{mainClass: 4, threadKind: 1}
	for _, class := range append(numbers(-20, 40), extremes...) {
		for _, method := range append(numbers(-5, 30), extremes...) {
			want := api.ErrCodeArgs
			if method >= 0 && method < methods[class] {
				want = api.OK
			}
			wantChecked(t, p, class, method, 0, want)
		}
	}
	wantChecked(t, api.Program{}, 0, 0, 0, api.ErrCodeArgs)
	wantChecked(t, api.Program{Main: mainClass}, mainClass, 0, 0, api.ErrCodeArgs)
}

// What layer 15 refuses is told ahead of all that is wrong with instructions, and at 0.
func TestP16_2NoProgram(t *testing.T) {
	for i, spoil := range []func(p *api.Program){
		func(p *api.Program) { p.Main = 0 },
		func(p *api.Program) { p.Main = behindAll },
		func(p *api.Program) { p.Classes[3].Super = api.ClassWeak },
		func(p *api.Program) { p.Classes[3].Super = emptyClass },
		func(p *api.Program) { p.Classes[3].Faces = []int{mainClass} },
		func(p *api.Program) { p.Classes[2].Fields[0].Type = api.TypeNone },
		func(p *api.Program) { p.Classes[0].Methods[1].Locals = 0 },
		func(p *api.Program) { p.Classes[0].Statics[2].Name = "a" },
		func(p *api.Program) { p.Classes[2].Faces = []int{plainFace} },
		func(p *api.Program) { p.Classes[2].Final = true },
	} {
		for _, instructions := range [][]api.Ins{nil, {{Op: api.InsReturn}}, {{}, {Op: 47}}, {{}, {Op: api.InsGoto, A: 9}}} {
			p := program(instructions...)
			spoil(&p)
			if _, _, code := load.Load(p); code == api.OK {
				t.Fatalf("row %d is taken", i)
			}
			wantChecked(t, p, mainClass, 0, 0, api.ErrCodeArgs)
		}
	}
}

// Operands are held against the method that they stand in, and against all classes, whatever their row.
func TestP16_2AnyMethod(t *testing.T) {
	p := program(api.Ins{Op: api.InsReturn})
	run := &p.Classes[threadKind-api.FirstClass].Methods[0]
	run.Locals = 2
	run.Code = []api.Ins{{Op: api.InsLoad, A: 1}, {Op: api.InsGetField, A: threadKind}, {Op: api.InsGetField, A: mainClass, B: 1},
		{Op: api.InsCallFace, A: plainFace, B: 1}, {Op: api.InsGoto, A: 4}}
	wantChecked(t, p, threadKind, 0, 0, api.OK)
	run.Code[0].A = 2
	wantChecked(t, p, threadKind, 0, 0, api.ErrCodeArgs)
	wantChecked(t, p, mainClass, 0, 0, api.OK)
	run.Locals = 24
	run.Code[0].A = 23
	wantChecked(t, p, threadKind, 0, 0, api.OK)
	run.Code[4].A = 5
	wantChecked(t, p, threadKind, 0, 4, api.ErrCodeTarget)
	wantChecked(t, p, mainClass, 0, 0, api.OK)
	// Fields of a super are none of the class's own.
	run.Code[1].A = emptyClass
	wantChecked(t, p, threadKind, 0, 1, api.ErrCodeArgs)
	// ClassThread's own run is no method of the program.
	wantChecked(t, p, api.ClassThread, 0, 0, api.ErrCodeArgs)
}

func TestP16_2NothingIsChanged(t *testing.T) {
	instructions := make([]api.Ins, 300, 400)
	for i := range instructions {
		instructions[i] = api.Ins{Op: api.InsCallVirtual, A: mainClass, B: 1}
	}
	instructions[299] = api.Ins{Op: api.InsGoto, A: 299}
	p, want := program(instructions...), program(slices.Clone(instructions)...)
	wantChecked(t, p, mainClass, 0, 0, api.OK)
	spare := instructions[300:400]
	if !reflect.DeepEqual(p, want) || slices.ContainsFunc(spare, func(i api.Ins) bool { return i != (api.Ins{}) }) {
		t.Errorf("the program is changed: %v", p)
	}
}

// Beyond layer 14's limits only R1 holds: no panic, and each call ends.
func TestP16_2BeyondTheLimits(t *testing.T) {
	long := make([]api.Ins, 200000)
	long[len(long)-1] = api.Ins{Op: api.InsGoto, A: len(long) - 1}
	code.Check(program(long...), mainClass, 0)
	for _, x := range extremes {
		p := program(api.Ins{Op: api.InsLoad, A: x - 1}, api.Ins{Op: api.InsStore, A: x}, api.Ins{Op: api.InsReturn})
		p.Classes[0].Methods[0].Locals = x
		code.Check(p, mainClass, 0)
		for _, y := range extremes {
			for op := range 47 {
				code.Check(program(api.Ins{Op: op, A: x, B: y}), mainClass, 0)
			}
			code.Check(p, x, y)
			code.Check(api.Program{Main: x}, x, y)
		}
	}
}

// largest is a program of as many classes, methods and instructions as may be.
func largest() api.Program {
	var p api.Program
	p.Main = mainClass
	for c := range api.MaxClasses {
		one := api.Class{Name: "A" + string(rune('a'+c))}
		for m := range api.MaxMethods {
			body := make([]api.Ins, api.MaxCode)
			for i := range body {
				body[i] = api.Ins{Op: api.InsCallStatic, A: mainClass + i%api.MaxClasses, B: i % api.MaxMethods}
			}
			body[api.MaxCode-1] = api.Ins{Op: api.InsReturn}
			one.Methods = append(one.Methods, api.Method{Name: "m" + string(rune('a'+m)), Static: true, Code: body})
		}
		p.Classes = append(p.Classes, one)
	}
	return p
}

func TestP16_2TheGreatest(t *testing.T) {
	p := largest()
	for c := range api.MaxClasses {
		wantChecked(t, p, mainClass+c, c%api.MaxMethods, 0, api.OK)
	}
	last := p.Classes[api.MaxClasses-1].Methods[api.MaxMethods-1].Code
	last[api.MaxCode-2].B = api.MaxMethods
	wantChecked(t, p, mainClass+api.MaxClasses-1, api.MaxMethods-1, api.MaxCode-2, api.ErrCodeArgs)
	last[api.MaxCode-2].B, last[api.MaxCode-1] = 0, api.Ins{}
	wantChecked(t, p, mainClass+api.MaxClasses-1, api.MaxMethods-1, api.MaxCode, api.ErrCodeTarget)
}

func BenchmarkCheck(b *testing.B) {
	p := largest()
	for range b.N {
		code.Check(p, mainClass, 0)
	}
}

func TestP16_2AProgramThatIsKnownToBeTaken(t *testing.T) {
	r := random(162)
	for range 3000 {
		p := r.program()
		class, method := 9+r.next(10), r.next(6)-1
		if _, _, e := load.Load(p); e != api.OK {
			continue
		}
		at, e := code.CheckLoaded(p, class, method)
		if wantAt, want := code.Check(p, class, method); at != wantAt || e != want {
			t.Fatalf("CheckLoaded(%+v, %d, %d) = %d, %d; want %d, %d", p, class, method, at, e, wantAt, want)
		}
	}
	// Whether layer 15 takes it is not asked.
	p := program(api.Ins{}, api.Ins{Op: api.InsReturn})
	p.Main = 99
	if at, e := code.CheckLoaded(p, mainClass, 0); at != 0 || e != api.OK {
		t.Errorf("%d, %d", at, e)
	}
	wantChecked(t, p, mainClass, 0, 0, api.ErrCodeArgs)
}
