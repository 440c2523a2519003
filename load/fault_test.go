package load_test

import (
	"math"
	"slices"
	"testing"

	"gneiss/api"
	"gneiss/load"
)

func TestP15_1Super(t *testing.T) {
	for super := -3; super < 20; super++ {
		isFine := super >= 0 && super <= 9 || super == 11
		switch {
		case super == 12: // the class itself
		case isFine:
			wantTaken(t, with(api.Class{Super: super}))
		default:
			wantFault(t, with(api.Class{Super: super}), 12, api.ErrLoadSuper)
		}
		if super == 0 {
			wantTaken(t, with(api.Class{Super: super, Face: true}))
		} else {
			wantFault(t, with(api.Class{Super: super, Face: true}), 12, api.ErrLoadSuper)
		}
	}
	for _, super := range []int{math.MinInt, math.MinInt32, math.MaxInt32, math.MaxInt} {
		wantFault(t, with(api.Class{Super: super}), 12, api.ErrLoadSuper)
		wantFault(t, with(api.Class{Super: super, Face: true}), 12, api.ErrLoadSuper)
	}
	wantFault(t, with(api.Class{Super: 13}, api.Class{Face: true}), 12, api.ErrLoadSuper)
	wantFault(t, with(api.Class{Face: true}, api.Class{Super: 12}), 13, api.ErrLoadSuper)
	wantFault(t, with(api.Class{Super: 14}), 12, api.ErrLoadSuper)
	wantTaken(t, with(api.Class{Super: 13}, api.Class{}))
	wantFault(t, api.Program{Main: 11, Classes: []api.Class{{Super: 10}}}, 11, api.ErrLoadSuper)
}

func TestP15_1Cycle(t *testing.T) {
	supers := func(all ...int) api.Program {
		var classes []api.Class
		for _, super := range all {
			classes = append(classes, api.Class{Super: super})
		}
		return with(classes...)
	}
	wantFault(t, supers(12), 12, api.ErrLoadCycle)
	wantFault(t, supers(0, 13), 13, api.ErrLoadCycle)
	wantFault(t, supers(13, 12), 12, api.ErrLoadCycle)
	wantFault(t, supers(0, 14, 13), 13, api.ErrLoadCycle)
	wantFault(t, supers(13, 13), 13, api.ErrLoadCycle)
	wantFault(t, supers(13, 14, 13), 13, api.ErrLoadCycle)
	wantFault(t, supers(14, 12, 15, 14), 14, api.ErrLoadCycle)
	wantFault(t, supers(15, 12, 13, 14), 12, api.ErrLoadCycle)
	wantFault(t, supers(13, 14, 15, 16, 17, 16, 12), 16, api.ErrLoadCycle)
	wantTaken(t, supers(13, 14, 15, 16, 17, 0, 12))
	wantTaken(t, supers(13, 14, 15, 16, 17, 8, 12))
	ring := make([]int, api.MaxClasses-1)
	for i := range ring {
		ring[i] = 12 + (i+1)%len(ring)
	}
	wantFault(t, supers(ring...), 12, api.ErrLoadCycle)
	ring[len(ring)-1] = 12 + len(ring) - 2
	wantFault(t, supers(ring...), 12+len(ring)-2, api.ErrLoadCycle)
	ring[len(ring)-1] = 11
	wantTaken(t, supers(ring...))
}

func TestP15_1Face(t *testing.T) {
	faces := func(all ...int) api.Class { return api.Class{Faces: all} }
	plainFace := api.Class{Face: true}
	for _, none := range []int{math.MinInt, -1, 0, 1, 8, 9, 10, 11, 13, 15, 40, math.MaxInt} {
		wantFault(t, with(plainFace, faces(none), plainFace), 13, api.ErrLoadFace)
		wantFault(t, with(plainFace, faces(12, 14, none), plainFace), 13, api.ErrLoadFace)
		wantFault(t, with(plainFace, faces(none, 12), plainFace), 13, api.ErrLoadFace)
	}
	wantTaken(t, with(plainFace, faces(12), plainFace))
	wantTaken(t, with(plainFace, faces(14, 12, 14), plainFace))
	wantFault(t, with(face([]int{12, 0})), 12, api.ErrLoadFace)
	wantFault(t, with(face([]int{11})), 12, api.ErrLoadFace)
	wantTaken(t, with(face([]int{12})))
	one := []api.Field{{Name: "x", Type: 1}}
	wantEach(t, api.ErrLoadFace,
		api.Class{Face: true, Final: true},
		api.Class{Face: true, Final: true, Methods: []api.Method{method("finalize", 0)}},
		api.Class{Face: true, Fields: one},
		api.Class{Face: true, Statics: one},
		face(nil, static("m", 0)),
		face(nil, method("n", 0), static("m", 0)),
		face(nil, api.Method{Name: "m", Code: make([]api.Ins, 1)}),
		face(nil, api.Method{Name: "m", Table: make([]api.Handler, 1)}),
		face(nil, api.Method{Name: "m", Maps: make([]api.Map, 1)}),
		face(nil, method("a", 0), api.Method{Name: "m", Code: make([]api.Ins, 1)}, method("b", 0)),
	)
	wantEach(t, api.OK,
		plainFace,
		api.Class{Face: true, Faces: []int{}, Fields: []api.Field{}, Statics: []api.Field{}, Methods: []api.Method{}},
		face(nil, api.Method{Name: "m", Code: []api.Ins{}, Table: []api.Handler{}, Maps: []api.Map{}}),
		face(nil, api.Method{Name: "m", Locals: 24, Stack: 24}),
		api.Class{Fields: one, Statics: one, Methods: []api.Method{{
			Name: "m", Static: true, Code: make([]api.Ins, 1), Table: make([]api.Handler, 1), Maps: make([]api.Map, 1),
		}}},
	)
}

func TestP15_1Types(t *testing.T) {
	isType := map[int]bool{1: true, 3: true, 4: true}
	for c := range 14 {
		isType[16+c] = true
	}
	for _, x := range append([]int{math.MinInt, math.MinInt32, -16, math.MaxInt32, math.MaxInt}, numbers(-3, 60)...) {
		for i, c := range []api.Class{
			{Fields: []api.Field{{Name: "a", Type: 1}, {Name: "b", Type: x}}},
			{Statics: []api.Field{{Name: "b", Type: x}, {Name: "a", Type: 1}}},
			methods(method("m", 1), method("m", 0, 1, x, 1)),
			methods(static("s", 0, x)),
			face(nil, method("m", 0, 1, x)),
			methods(method("m", x)),
			methods(static("s", 0), static("m", x)),
			face(nil, method("n", 1), method("m", x)),
		} {
			p := with(c, face(nil))
			if isType[x] || i >= 5 && x == api.TypeNone {
				wantTaken(t, p)
			} else {
				wantFault(t, p, 12, api.ErrLoadSign)
			}
		}
	}
}

func numbers(from, to int) []int {
	var all []int
	for x := from; x < to; x++ {
		all = append(all, x)
	}
	return all
}

func TestP15_1Locals(t *testing.T) {
	for args := range api.MaxArgs + 1 {
		for locals := range api.MaxLocals + 1 {
			m := api.Method{Name: "m", Args: slices.Repeat([]int{1}, args), Locals: locals}
			s := m
			s.Static = true
			for _, c := range []api.Class{methods(m), methods(method("n", 0), m), methods(s), methods(static("n", 0), s)} {
				last := c.Methods[len(c.Methods)-1]
				isFew := args > locals || args == locals && !last.Static
				if isFew {
					wantFault(t, with(c), 12, api.ErrLoadSign)
				} else {
					wantTaken(t, with(c))
				}
			}
			wantTaken(t, with(face(nil, m)))
		}
	}
}

func TestP15_1Twice(t *testing.T) {
	fields := func(names ...string) []api.Field {
		var all []api.Field
		for i, name := range names {
			all = append(all, api.Field{Name: name, Type: 3 + i%2})
		}
		return all
	}
	wantEach(t, api.ErrLoadTwice,
		api.Class{Fields: fields("a", "a")},
		api.Class{Fields: fields("a", "b", "c", "a")},
		api.Class{Statics: fields("b", "a", "a")},
		api.Class{Fields: fields("", "")},
		methods(method("m", 0), method("m", 0)),
		methods(method("m", 0), static("m", 0)),
		methods(static("m", 0), static("n", 0), static("m", 0)),
		methods(method("m", 1, 1, 3), method("m", 1), method("m", 1, 1, 3)),
		methods(method("z", 0), method("m", 0, 16), method("a", 0), method("m", 0, 16), method("b", 0)),
		face(nil, method("m", 0), method("m", 0)),
	)
	wantEach(t, api.OK,
		api.Class{Fields: fields("a", "A", "aa", "_a", "b"), Statics: fields("a", "A", "aa")},
		methods(method("m", 0), method("m", 1), method("m", 3), method("m", 0, 1), static("m", 0, 3), method("m", 0, 1, 1),
			method("m", 1, 1), static("n", 0), method("M", 0), method("m", 0, 3, 1), method("m", 0, 1, 3)),
		face(nil, method("m", 0), method("m", 1), method("n", 0)),
	)
	locals := method("m", 0)
	locals.Locals, locals.Stack, locals.Code = 9, 9, make([]api.Ins, 3)
	wantEach(t, api.ErrLoadTwice, methods(locals, method("m", 0)))
	wantTaken(t, with(api.Class{Fields: fields("a"), Methods: []api.Method{method("m", 0)}},
		api.Class{Super: 12, Fields: fields("a"), Methods: []api.Method{method("m", 0)}}))
}

func TestP15_1Missing(t *testing.T) {
	f := face(nil, method("f", 0, 1), method("g", 1))
	both := []api.Method{method("g", 1), method("f", 0, 1)}
	wantTaken(t, with(f, api.Class{Faces: []int{12}, Methods: both}))
	for _, lacking := range [][]api.Method{
		nil, {both[0]}, {both[1]}, {both[0], method("f", 0)}, {both[0], method("f", 1, 1)}, {both[0], method("F", 0, 1)},
		{both[0], method("f", 0, 3)}, {both[0], method("f", 0, 1, 1)}, {both[0], static("f", 0, 1)},
	} {
		wantFault(t, with(f, api.Class{Faces: []int{12}, Methods: lacking}), 13, api.ErrLoadMissing)
		wantFault(t, with(f, face([]int{12}), api.Class{Faces: []int{13}, Methods: lacking}), 14, api.ErrLoadMissing)
		wantFault(t, with(f, api.Class{Super: 14, Faces: []int{12}, Methods: lacking},
			api.Class{Super: 9}), 13, api.ErrLoadMissing)
		wantFault(t, with(f, api.Class{Super: 14, Methods: both},
			api.Class{Faces: []int{12}, Methods: lacking}), 14, api.ErrLoadMissing)
	}
	wantTaken(t, with(f, api.Class{Super: 14, Faces: []int{12}}, api.Class{Methods: both}))
	wantTaken(t, with(f, api.Class{Super: 14, Faces: []int{12}, Methods: both[:1]}, api.Class{Methods: both[1:]}))
	wantTaken(t, with(f, api.Class{Super: 14}, api.Class{Faces: []int{12}, Methods: both}))
	wantTaken(t, with(f, api.Class{Super: 14, Faces: []int{12}, Methods: []api.Method{static("g", 1)}}, api.Class{Methods: both}))
	wantTaken(t, with(f, api.Class{Methods: nil}))
	wantTaken(t, with(f, face([]int{12})))
	run := face(nil, method("run", 0))
	wantTaken(t, with(run, api.Class{Super: 9, Faces: []int{12}}))
	wantFault(t, with(run, api.Class{Super: 1, Faces: []int{12}}), 13, api.ErrLoadMissing)
	ring := []api.Class{face([]int{13}), face([]int{14}), face([]int{12}, method("f", 0)), {Faces: []int{12}}}
	wantFault(t, with(ring...), 15, api.ErrLoadMissing)
	ring[3].Methods = []api.Method{method("f", 0)}
	wantTaken(t, with(ring...))
}

func TestP15_1Final(t *testing.T) {
	final := func(super int, all ...api.Method) api.Class {
		return api.Class{Final: true, Super: super, Methods: all}
	}
	wantEach(t, api.ErrLoadFinal,
		final(0), final(9), final(1), final(11),
		final(0, static("finalize", 0)),
		final(0, method("finalize", 1)),
		final(0, method("finalize", 0, 1)),
		final(0, method("Finalize", 0), method("finalize_", 0), method("finaliz", 0), method("", 0)),
	)
	wantEach(t, api.OK,
		final(0, method("finalize", 0)),
		final(9, static("a", 0), method("finalize", 1), method("finalize", 0)),
		api.Class{},
	)
	wantTaken(t, with(final(13), api.Class{Methods: []api.Method{method("finalize", 0)}}))
	wantTaken(t, with(final(13, static("finalize", 0)), final(0, method("finalize", 0))))
	wantTaken(t, with(final(0, method("finalize", 0)), api.Class{Super: 12}, final(13)))
	wantFault(t, with(api.Class{Super: 13}, final(0)), 13, api.ErrLoadFinal)
	wantFault(t, with(api.Class{Super: 13, Methods: []api.Method{method("finalize", 0)}}, final(0)), 13, api.ErrLoadFinal)
}

func TestP15_1Main(t *testing.T) {
	classes := []api.Class{mainClass(), {}, face(nil, method("m", 0)), methods(static("a", 0), static("b", 1)),
		methods(static("b", 1), static("a", 0)), methods(method("a", 0)), methods(static("a", 0, 1)), face(nil),
		methods(static("a", typeOf(11))), {Super: 11}, {Super: 9, Methods: []api.Method{static("anything", 0), method("run", 0)}},
		methods(static("a", 0, 1), static("a", 0))}
	isFine := map[int]bool{11: true, 14: true, 21: true}
	for _, main := range append(numbers(-5, 60), math.MinInt, math.MaxInt, math.MinInt32, math.MaxInt32) {
		p := api.Program{Main: main, Classes: classes}
		if isFine[main] {
			wantTaken(t, p)
		} else {
			wantFault(t, p, main, api.ErrLoadMain)
		}
		wantFault(t, api.Program{Main: main}, main, api.ErrLoadMain)
	}
}

// faulty is a class for each rule but the last, which breaks it and none ahead of it, in the row of the rules.
func faulty() []struct {
	class api.Class
	code  api.Errno
} {
	twice := []api.Field{{Name: "x", Type: 1}, {Name: "x", Type: 1}}
	wrong := []api.Field{{Name: "x", Type: 0}, {Name: "x", Type: 1}}
	return []struct {
		class api.Class
		code  api.Errno
	}{
		{api.Class{Super: 10, Faces: []int{0}, Fields: wrong, Final: true}, api.ErrLoadSuper},
		{api.Class{Super: 12, Faces: []int{0}, Fields: wrong, Final: true}, api.ErrLoadCycle},
		{api.Class{Faces: []int{0, 13}, Fields: wrong, Final: true}, api.ErrLoadFace},
		{api.Class{Faces: []int{13}, Fields: wrong, Final: true}, api.ErrLoadSign},
		{api.Class{Faces: []int{13}, Fields: twice, Final: true}, api.ErrLoadTwice},
		{api.Class{Faces: []int{13}, Fields: twice[:1], Final: true}, api.ErrLoadMissing},
		{api.Class{Faces: []int{13}, Fields: twice[:1], Final: true, Methods: []api.Method{method("f", 0)}}, api.ErrLoadFinal},
	}
}

func TestP15_1OneClassTheRowOfTheRules(t *testing.T) {
	f := face(nil, method("f", 0))
	for _, x := range faulty() {
		p := with(x.class, f)
		wantFault(t, p, 12, x.code)
		p.Main = 0
		wantFault(t, p, 12, x.code)
	}
}

func TestP15_1RuleByRuleThenClassByClass(t *testing.T) {
	f := face(nil, method("f", 0))
	rules := faulty()
	for i, first := range rules {
		for _, second := range rules[i:] {
			ahead, behind := second.class, first.class
			if first.code == api.ErrLoadCycle {
				behind.Super = 14
			}
			if second.code == api.ErrLoadCycle && first.code != api.ErrLoadCycle {
				ahead.Super = 12
			}
			p := with(ahead, f, behind)
			p.Main = 0
			switch {
			case first.code == second.code:
				wantFault(t, p, 12, first.code)
			default:
				wantFault(t, p, 14, first.code)
			}
		}
	}
}

func TestP15_1TheFirstClassOfARule(t *testing.T) {
	for _, bad := range []api.Class{
		{Super: -1}, {Faces: []int{9}}, {Fields: []api.Field{{}}}, methods(method("m", 0), method("m", 0)), {Final: true},
		methods(method("m", 2)), {Faces: []int{11 + 38}},
	} {
		for first := range 8 {
			classes := make([]api.Class, 39)
			for i := first; i < len(classes)-2; i += 3 {
				classes[i] = bad
			}
			classes[38] = face(nil, method("f", 0))
			_, class, code := load.Load(with(classes...))
			if class != 12+first || code == api.OK {
				t.Errorf("%v from %d on: %d, %d", bad, 12+first, class, code)
			}
		}
	}
}

// Beyond layer 14's limits only R1 holds: no panic, and each call ends.
func TestP15_1BeyondTheLimits(t *testing.T) {
	extremes := []int{math.MinInt, math.MinInt32, -17, -1, 0, 1, 10, 11, 12, 13, 16, 27, 28, math.MaxInt32, math.MaxInt}
	for _, x := range extremes {
		for _, y := range extremes {
			load.Load(api.Program{Main: x, Classes: []api.Class{mainClass(), {Super: y, Faces: []int{x}}}})
			load.Load(with(api.Class{Super: x, Face: true, Faces: []int{y, x}}))
			load.Load(with(methods(api.Method{Ret: x, Locals: y}), methods(api.Method{Args: []int{x, y}, Locals: y})))
			load.Load(with(api.Class{Fields: []api.Field{{Type: x}, {Type: y}}, Statics: []api.Field{{Type: y}}}))
		}
	}
	many := make([]api.Class, 3000)
	for i := range many {
		many[i] = api.Class{Super: 11 + i, Methods: []api.Method{method("m", 0)}}
	}
	load.Load(with(many...))
	many[0].Super = 2500
	load.Load(with(many...))
	wide := api.Class{}
	for i := range 20000 {
		wide.Fields = append(wide.Fields, api.Field{Name: string(rune('a' + i)), Type: 1})
		wide.Methods = append(wide.Methods, api.Method{Name: "m", Args: numbers(0, i%100), Ret: 1, Locals: 1000})
	}
	load.Load(with(wide))
}
