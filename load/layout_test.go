package load_test

import (
	"slices"
	"testing"

	"gneiss/api"
)

func builtInShapes() []shape {
	all := []shape{{above: []int{0}}, {above: []int{0, 1}}}
	for c := 2; c <= 8; c++ {
		all = append(all, shape{above: []int{0, 1, c}})
	}
	return append(all, shape{virtual: "run()0@9.0", above: []int{0, 9}}, shape{above: []int{0, 10}})
}

func TestP15_1BuiltInClasses(t *testing.T) {
	wantShapes(t, wantTaken(t, with()), 0, append(builtInShapes(), shape{above: []int{0, 11}})...)
	wantShapes(t, wantTaken(t, with(api.Class{Super: 9, Methods: []api.Method{method("run", 0), method("x", 0)}})), 0,
		builtInShapes()...)
}

func TestP15_1FieldsAndOffsets(t *testing.T) {
	fields := func(super int, all ...api.Field) api.Class { return api.Class{Super: super, Fields: all} }
	p := with(
		fields(14, api.Field{Name: "a", Type: 1}, api.Field{Name: "b", Type: 3}),
		fields(12),
		fields(0, api.Field{Name: "c", Type: 4}, api.Field{Name: "a", Type: typeOf(16)}, api.Field{Name: "_", Type: 1}),
		fields(13, api.Field{Name: "a", Type: typeOf(0)}),
		fields(7, api.Field{Name: "z", Type: typeOf(10)}),
	)
	p.Classes[4].Statics = []api.Field{{Name: "s", Type: 1}, {Name: "a", Type: 1}}
	wantShapes(t, wantTaken(t, p), 12,
		shape{"c:4 a:32 _:1 a:1 b:3", 3, "", []int{0, 12, 14}},
		shape{"c:4 a:32 _:1 a:1 b:3", 5, "", []int{0, 12, 13, 14}},
		shape{"c:4 a:32 _:1", 0, "", []int{0, 14}},
		shape{"c:4 a:32 _:1 a:1 b:3 a:16", 5, "", []int{0, 12, 13, 14, 15}},
		shape{"z:26", 0, "", []int{0, 1, 7, 16}},
	)
}

func TestP15_1OwnMethodsStandInTheirSupersPlaces(t *testing.T) {
	below := func(super int, all ...api.Method) api.Class { return api.Class{Super: super, Methods: all} }
	p := with(
		below(0, method("a", 0), method("b", 1, 3), static("s", 0), method("c", 0)),
		below(12, method("x", 0), method("c", 0), method("b", 1, 3), method("y", 0)),
		below(13, method("y", 0), method("a", 0), method("z", 0)),
		below(12),
		below(13, method("b", 1), method("b", 0, 3), method("b", 1, 4), method("B", 1, 3), method("b", 1, 3, 3)),
	)
	wantShapes(t, wantTaken(t, p), 12,
		shape{"", 0, "a()0@12.0 b(3)1@12.1 c()0@12.3", []int{0, 12}},
		shape{"", 0, "a()0@12.0 b(3)1@13.2 c()0@13.1 x()0@13.0 y()0@13.3", []int{0, 12, 13}},
		shape{"", 0, "a()0@14.1 b(3)1@13.2 c()0@13.1 x()0@13.0 y()0@14.0 z()0@14.2", []int{0, 12, 13, 14}},
		shape{"", 0, "a()0@12.0 b(3)1@12.1 c()0@12.3", []int{0, 12, 15}},
		shape{"", 0, "a()0@12.0 b(3)1@13.2 c()0@13.1 x()0@13.0 y()0@13.3 b()1@16.0 b(3)0@16.1 b(4)1@16.2 B(3)1@16.3 b(3,3)1@16.4",
			[]int{0, 12, 13, 16}},
	)
}

func TestP15_1StaticMethodsAreNotVirtual(t *testing.T) {
	p := with(
		api.Class{Methods: []api.Method{method("a", 0), static("b", 0)}},
		api.Class{Super: 12, Methods: []api.Method{static("a", 0), method("b", 0)}},
		api.Class{Super: 13, Methods: []api.Method{method("a", 0), static("b", 0), static("c", 0)}},
	)
	wantShapes(t, wantTaken(t, p), 12,
		shape{"", 0, "a()0@12.0", []int{0, 12}},
		shape{"", 0, "a()0@12.0 b()0@13.1", []int{0, 12, 13}},
		shape{"", 0, "a()0@14.0 b()0@13.1", []int{0, 12, 13, 14}},
	)
}

func TestP15_1Threads(t *testing.T) {
	p := with(
		api.Class{Super: 9},
		api.Class{Super: 9, Methods: []api.Method{method("z", 0), method("run", 0)}},
		api.Class{Super: 13, Methods: []api.Method{method("run", 1), method("run", 0, 1)}},
		api.Class{Super: 9, Methods: []api.Method{static("run", 0)}},
	)
	wantShapes(t, wantTaken(t, p), 12,
		shape{"", 0, "run()0@9.0", []int{0, 9, 12}},
		shape{"", 0, "run()0@13.1 z()0@13.0", []int{0, 9, 13}},
		shape{"", 0, "run()0@13.1 z()0@13.0 run()1@14.0 run(1)0@14.1", []int{0, 9, 13, 14}},
		shape{"", 0, "run()0@9.0", []int{0, 9, 15}},
	)
}

func TestP15_1Faces(t *testing.T) {
	p := with(
		face(nil, method("f", 0), method("g", 1, typeOf(12))),
		face([]int{12, 12}, method("h", 0)),
		face([]int{13, 17}),
		face(nil),
		api.Class{Faces: []int{14}, Methods: []api.Method{method("h", 0), method("g", 1, typeOf(12)), method("f", 0)}},
		face([]int{17, 14}),
		api.Class{Super: 16, Faces: []int{15}},
		api.Class{Super: 18, Methods: []api.Method{method("f", 0)}},
	)
	wantShapes(t, wantTaken(t, p), 12,
		shape{"", -1, "f()0@12.0 g(28)1@12.1", []int{0, 12}},
		shape{"", -1, "h()0@13.0", []int{0, 12, 13}},
		shape{"", -1, "", []int{0, 12, 13, 14, 17}},
		shape{"", -1, "", []int{0, 15}},
		shape{"", 0, "h()0@16.0 g(28)1@16.1 f()0@16.2", []int{0, 12, 13, 14, 16, 17}},
		shape{"", -1, "", []int{0, 12, 13, 14, 17}},
		shape{"", 0, "h()0@16.0 g(28)1@16.1 f()0@16.2", []int{0, 12, 13, 14, 15, 16, 17, 18}},
		shape{"", 0, "h()0@16.0 g(28)1@16.1 f()0@19.0", []int{0, 12, 13, 14, 15, 16, 17, 18, 19}},
	)
}

func TestP15_1FacesMayLeadBackToThemselves(t *testing.T) {
	p := with(face([]int{12}), face([]int{14}), face([]int{15, 12}), face([]int{13}), api.Class{Super: 1, Faces: []int{15}})
	ring := []int{0, 12, 13, 14, 15}
	wantShapes(t, wantTaken(t, p), 12, shape{offset: -1, above: []int{0, 12}}, shape{offset: -1, above: ring},
		shape{offset: -1, above: ring}, shape{offset: -1, above: ring}, shape{above: []int{0, 1, 12, 13, 14, 15, 16}})
}

// deepest is a program of MaxClasses classes, one below the other, all lists of each as long as they may be.
func deepest(isRising bool) api.Program {
	p := api.Program{Main: 11}
	for i := range api.MaxClasses {
		c := api.Class{Name: "C", Super: 10 + i}
		if !isRising {
			c.Super = 12 + i
		}
		if isRising && i == 0 || !isRising && i == api.MaxClasses-1 {
			c.Super = 0
		}
		for k := range api.MaxFields {
			f := api.Field{Name: string(rune('a' + k)), Type: typeOf(11 + k)}
			c.Fields, c.Statics = append(c.Fields, f), append(c.Statics, f)
			args := []int{1, 1, 1, 1, 1, 1, 1, typeOf(i)}
			c.Methods = append(c.Methods, method("abcdefghijklmno"+f.Name, typeOf(k), args...))
		}
		c.Methods[0] = static("main", 0)
		p.Classes = append(p.Classes, c)
	}
	return p
}

func TestP15_1TheGreatestPrograms(t *testing.T) {
	for _, isRising := range []bool{true, false} {
		p := deepest(isRising)
		ls := wantTaken(t, p)
		for c := 11; c < len(ls); c++ {
			depth := c - 10
			if !isRising {
				depth = len(ls) - c
			}
			l := ls[c]
			if len(l.Fields) != 24*depth || l.Offset != 24*(depth-1) || len(l.Virtual) != 23*depth || len(l.Above) != depth+1 {
				t.Errorf("class %d: %d fields, %d, %d virtual, %d above", c, len(l.Fields), l.Offset, len(l.Virtual), len(l.Above))
			}
		}
		if want := (plain{p}).layouts(); !same(ls, want) {
			t.Error("layouts are not as the chapter says")
		}
	}
}

func TestP15_1ManyFaces(t *testing.T) {
	const faces, each, below = 20, 22, 19
	var all []api.Class
	var wanted []api.Method
	for i, c := range deepest(true).Classes[:faces] {
		all = append(all, face([]int{12 + (i+1)%faces, 12 + i*7%faces}, c.Methods[1:each+1]...))
		wanted = append(wanted, c.Methods[1:each+1]...)
	}
	for i := range below {
		part := wanted[i*len(wanted)/below : (i+1)*len(wanted)/below]
		all = append(all, api.Class{Super: 11 + faces + i, Methods: part})
	}
	all[faces].Super = 0
	last := len(all) - 1
	all[last].Faces = []int{15}
	ls := wantTaken(t, with(all...))
	if l := ls[12+last]; len(l.Above) != 1+faces+below || len(l.Virtual) != faces*each {
		t.Errorf("%d above, %d virtual", len(l.Above), len(l.Virtual))
	}
	all[faces+3].Methods = all[faces+3].Methods[1:]
	wantFault(t, with(all...), 12+last, api.ErrLoadMissing)
}

// crowded is a program whose lists have spare room, which nothing may write into.
func crowded() api.Program {
	p := with(
		face(nil, method("f", 0, 1, 3)),
		api.Class{Faces: []int{12}, Fields: []api.Field{{Name: "x", Type: 1}}, Methods: []api.Method{method("f", 0, 1, 3)}},
		api.Class{Super: 13, Fields: []api.Field{{Name: "y", Type: 1}}, Methods: []api.Method{method("g", 0, 4)}},
		api.Class{Super: 13, Fields: []api.Field{{Name: "z", Type: 1}}, Methods: []api.Method{method("h", 0, 4)}},
	)
	p.Classes = append(make([]api.Class, 0, 20), p.Classes...)
	for i := range p.Classes {
		c := &p.Classes[i]
		c.Faces, c.Fields = append(make([]int, 0, 20), c.Faces...), append(make([]api.Field, 0, 20), c.Fields...)
		c.Methods = append(make([]api.Method, 0, 20), c.Methods...)
		for k := range c.Methods {
			c.Methods[k].Args = append(make([]int, 0, 20), c.Methods[k].Args...)
		}
	}
	return p
}

func TestP15_1WhatIsHandedInStays(t *testing.T) {
	p := crowded()
	was := copyOf(p)
	wantTaken(t, p)
	if !same((plain{p}).layouts(), (plain{was}).layouts()) {
		t.Error("the program is another")
	}
	isOther := func(x int) bool { return x != 0 }
	for i, c := range p.Classes[:cap(p.Classes)] {
		if i >= len(was.Classes) {
			if c.Super != 0 || c.Faces != nil || c.Methods != nil {
				t.Errorf("class %d in the spare room: %v", i, c)
			}
			continue
		}
		for _, m := range c.Methods {
			if slices.ContainsFunc(m.Args[len(m.Args):cap(m.Args)], isOther) {
				t.Errorf("class %d: Args' spare room: %v", i, m.Args[:cap(m.Args)])
			}
		}
		isUsed := func(f api.Field) bool { return f != api.Field{} }
		if slices.ContainsFunc(c.Fields[len(c.Fields):cap(c.Fields)], isUsed) ||
			slices.ContainsFunc(c.Faces[len(c.Faces):cap(c.Faces)], isOther) ||
			slices.ContainsFunc(c.Methods[len(c.Methods):cap(c.Methods)], func(m api.Method) bool { return m.Name != "" }) {
			t.Errorf("class %d: spare room is used", i)
		}
	}
}

func TestP15_1LayoutsAreNewMemory(t *testing.T) {
	p := crowded()
	want := (plain{copyOf(p)}).layouts()
	ls, other := wantTaken(t, p), wantTaken(t, p)
	for i := range ls {
		spoil(&ls[i])
		for k := i + 1; k < len(ls); k++ {
			if !same(ls[k:k+1], want[k:k+1]) {
				t.Fatalf("layouts %d and %d share memory: %v", i, k, ls[k])
			}
		}
	}
	if !same(other, want) || !same(wantTaken(t, p), want) {
		t.Error("an answer shares memory with another, or with the program")
	}
	for i := range p.Classes {
		c := &p.Classes[i]
		for k := range c.Fields {
			c.Fields[k] = api.Field{Name: "spoilt", Type: 3}
		}
		for k := range c.Methods {
			for j := range c.Methods[k].Args {
				c.Methods[k].Args[j] = 99
			}
		}
	}
	if !same(other, want) {
		t.Error("an answer goes with the program")
	}
}

// spoil writes over all of a layout's lists, their spare room too.
func spoil(l *api.Layout) {
	for i := range l.Virtual {
		args := l.Virtual[i].Args
		for k := range args {
			args[k] = -7
		}
		for k := range args[:cap(args)] {
			args[:cap(args)][k] = -7
		}
	}
	for i := range l.Virtual[:cap(l.Virtual)] {
		l.Virtual[:cap(l.Virtual)][i] = api.Entry{Name: "spoilt"}
	}
	for i := range l.Fields[:cap(l.Fields)] {
		l.Fields[:cap(l.Fields)][i] = api.Field{Name: "spoilt"}
	}
	for i := range l.Above[:cap(l.Above)] {
		l.Above[:cap(l.Above)][i] = -7
	}
}
