package asm_test

import (
	"math"
	"reflect"
	"slices"
	"strconv"
	"strings"
	"sync"
	"testing"

	"gneiss/api"
	"gneiss/asm"
	"gneiss/class"
	"gneiss/code"
)

func wantPrinted(t *testing.T, p api.Program, want string) {
	t.Helper()
	if s, e := asm.Print(p); s != want || e != api.OK {
		t.Errorf("Print(%+v) = %.300q, %d; want %.300q", p, s, e, want)
	}
}

func wantNoText(t *testing.T, p api.Program, want api.Errno) {
	t.Helper()
	if s, e := asm.Print(p); s != "" || e != want {
		t.Errorf("Print = %.300q, %d; want error %d", s, e, want)
	}
}

// ofIns is a program of one method of these instructions.
func ofIns(all ...api.Ins) api.Program {
	return api.Program{Main: 11, Classes: []api.Class{{Name: "A", Methods: []api.Method{{Name: "m", Code: all}}}}}
}

// operandsOf is how many operands the chapter says that an instruction has.
func operandsOf(op int) int {
	switch op {
	case api.InsInt, api.InsLoad, api.InsStore, api.InsArith, api.InsGoto, api.InsIfZero, api.InsIfLess, api.InsIfSame,
		api.InsIfNull, api.InsNew, api.InsIs, api.InsCast:
		return 1
	case api.InsGetField, api.InsPutField, api.InsGetStatic, api.InsPutStatic, api.InsCallStatic, api.InsCallVirtual,
		api.InsCallFace:
		return 2
	}
	return 0
}

// isWritten tells whether an instruction has a text, and no number that does not stand in it.
func isWritten(i api.Ins) bool {
	if i.Op < 0 || i.Op > 46 || i.Op == api.InsArith && (i.A < 0 || i.A > 11) {
		return false
	}
	return (i.A == 0 || operandsOf(i.Op) > 0) && (i.B == 0 || operandsOf(i.Op) > 1)
}

func TestP19_1AProgram(t *testing.T) {
	wantPrinted(t, smallProgram(), small)
	wantPrinted(t, api.Program{}, "main 0\nend\n")
	wantPrinted(t, api.Program{Main: -2147483648, Classes: []api.Class{}}, "main -2147483648\nend\n")
	wantPrinted(t, api.Program{Main: 2147483647}, "main 2147483647\nend\n")
}

// TestP19_1EachLine has each part of a program once, with numbers of its own, so that none stands in another's place.
func TestP19_1EachLine(t *testing.T) {
	for _, one := range []struct {
		class api.Class
		want  string
	}{
		{api.Class{Name: "A"}, "class A 0 0\n"},
		{api.Class{Name: "A", Face: true}, "class A 0 1\n"},
		{api.Class{Name: "A", Final: true}, "class A 0 2\n"},
		{api.Class{Name: "_9", Face: true, Final: true, Super: -7}, "class _9 -7 3\n"},
		{api.Class{Name: "A", Super: 9, Faces: []int{12}}, "class A 9 0 12\n"},
		{api.Class{Name: "A", Faces: []int{8, -7, 6, 5, 4, 3, 2, 1}}, "class A 0 0 8 -7 6 5 4 3 2 1\n"},
		{api.Class{Name: "A", Fields: []api.Field{{Name: "x", Type: 3}, {Name: "y", Type: -4}}}, "class A 0 0\nfield x 3\nfield y -4\n"},
		{api.Class{Name: "A", Statics: []api.Field{{Name: "x", Type: 3}, {Name: "y", Type: -4}}},
			"class A 0 0\nstatic x 3\nstatic y -4\n"},
		{api.Class{Name: "A", Statics: []api.Field{{Name: "s"}}, Fields: []api.Field{{Name: "f"}}, Methods: []api.Method{{Name: "m"}}},
			"class A 0 0\nfield f 0\nstatic s 0\nmethod m 0 0 0 0\n"},
		{api.Class{Name: "A", Methods: []api.Method{{Name: "m", Static: true, Ret: 5, Locals: 6, Stack: 7}}},
			"class A 0 0\nmethod m 1 5 6 7\n"},
		{api.Class{Name: "A", Methods: []api.Method{{Name: "m", Ret: -5, Locals: 24, Stack: 0, Args: []int{9, -8}}, {Name: "n"}}},
			"class A 0 0\nmethod m 0 -5 24 0 9 -8\nmethod n 0 0 0 0\n"},
		{api.Class{Name: "A", Methods: []api.Method{{Name: "m", Table: []api.Handler{{From: 1, To: 2, At: 3, Class: 4}}}}},
			"class A 0 0\nmethod m 0 0 0 0\nhandler 1 2 3 4\n"},
		{api.Class{Name: "A", Methods: []api.Method{{Name: "m", Maps: []api.Map{{At: 7}, {At: 8, Locals: []int{3, 4}},
			{At: 9, Stack: []int{5, 6, 7}}, {At: -1, Locals: []int{-2}, Stack: []int{-3}}}}}},
			"class A 0 0\nmethod m 0 0 0 0\nmap 7 0\nmap 8 2 3 4\nmap 9 0 5 6 7\nmap -1 1 -2 -3\n"},
		{api.Class{Name: "A", Methods: []api.Method{{Name: "m", Maps: []api.Map{{At: 1}}, Table: []api.Handler{{To: 2}},
			Code: []api.Ins{{Op: api.InsPop}, {}}}, {Name: "n", Code: []api.Ins{{Op: api.InsCollect}}}}},
			"class A 0 0\nmethod m 0 0 0 0\npop\nnop\nhandler 0 2 0 0\nmap 1 0\nmethod n 0 0 0 0\ncollect\n"},
	} {
		wantPrinted(t, api.Program{Main: 5, Classes: []api.Class{one.class}}, "main 5\n"+one.want+"end\n")
		wantPrinted(t, api.Program{Main: 5, Classes: []api.Class{one.class, {Name: "B"}, one.class}},
			"main 5\n"+one.want+"class B 0 0\n"+one.want+"end\n")
	}
}

func TestP19_1EachInstruction(t *testing.T) {
	numbers := []int{0, 1, -1, 5, 11, 12, 300, math.MinInt32, math.MaxInt32}
	for op := range 47 {
		for _, a := range numbers {
			for _, b := range numbers {
				i := api.Ins{Op: op, A: a, B: b}
				if !isWritten(i) {
					wantNoText(t, ofIns(i), api.ErrAsmForm)
					wantNoText(t, ofIns(api.Ins{}, i, api.Ins{}), api.ErrAsmForm)
					continue
				}
				text, e := code.Text(i)
				if e != api.OK {
					t.Fatal(e)
				}
				wantPrinted(t, ofIns(i), within(text))
			}
		}
	}
	for _, op := range []int{-1, 47, 48, 1000, math.MinInt32, math.MaxInt32} {
		wantNoText(t, ofIns(api.Ins{Op: op}), api.ErrAsmForm)
	}
}

func TestP19_1ArithsWords(t *testing.T) {
	for op, word := range strings.Fields("add sub mul div rem neg and or xor shl shr ushr") {
		wantPrinted(t, ofIns(api.Ins{Op: api.InsArith, A: op}), within("arith "+word))
		wantNoText(t, ofIns(api.Ins{Op: api.InsArith, A: op, B: 1}), api.ErrAsmForm)
	}
	for _, op := range []int{-1, 12, 13, math.MinInt32, math.MaxInt32} {
		wantNoText(t, ofIns(api.Ins{Op: api.InsArith, A: op}), api.ErrAsmForm)
	}
}

// TestP19_1AnyMethod: an instruction that can't be written is found wherever it stands, a Face's method too.
func TestP19_1AnyMethod(t *testing.T) {
	for _, at := range []struct{ class, method, ins int }{{0, 0, 0}, {0, 0, 299}, {0, 1, 2}, {1, 0, 0}, {2, 1, 1}} {
		p := api.Program{}
		for range 3 {
			c := api.Class{Name: "A", Face: len(p.Classes) == 1}
			for range 2 {
				c.Methods = append(c.Methods, api.Method{Name: "m", Code: make([]api.Ins, 300)})
			}
			p.Classes = append(p.Classes, c)
		}
		wantPrinted(t, p, plainText(p))
		p.Classes[at.class].Methods[at.method].Code[at.ins].B = 1
		wantNoText(t, p, api.ErrAsmForm)
	}
}

// long is a program whose text has just that many bytes: 22 methods of instructions that are longer as text than as bytes.
func long(bytes int) api.Program {
	c := api.Class{Name: "A"}
	for range 21 {
		c.Methods = append(c.Methods, api.Method{Name: "m", Code: slices.Repeat([]api.Ins{{Op: api.InsNotifyAll}}, 300)})
	}
	c.Methods = append(c.Methods, api.Method{Name: "m"})
	p := api.Program{Main: 11, Classes: []api.Class{c}}
	more := bytes - len(plainText(p))
	last := &c.Methods[21]
	last.Code = slices.Repeat([]api.Ins{{Op: api.InsNotifyAll}}, more/len("notifyall\n"))
	last.Name += strings.Repeat("x", more%len("notifyall\n"))
	return p
}

func TestP19_1HowLong(t *testing.T) {
	for _, bytes := range []int{api.MaxText - 1, api.MaxText} {
		p := long(bytes)
		s, e := asm.Print(p)
		if len(s) != bytes || s != plainText(p) || e != api.OK {
			t.Errorf("%d of %d bytes, %d", len(s), bytes, e)
		}
		wantParsed(t, s, p)
	}
	for _, bytes := range []int{api.MaxText + 1, api.MaxText + 500} {
		p := long(bytes)
		if s, e := class.Encode(p); e != api.OK || len(plainText(p)) != bytes {
			t.Fatal(len(s), e)
		}
		wantNoText(t, p, api.ErrAsmLong)
	}
	// Nearly as long as it may be for its bytes.
	longest := api.Ins{Op: api.InsCallVirtual, A: math.MinInt32, B: math.MinInt32}
	c := api.Class{Name: "A"}
	for range 9 {
		c.Methods = append(c.Methods, api.Method{Name: "m", Code: slices.Repeat([]api.Ins{longest}, 300)})
	}
	wantNoText(t, api.Program{Classes: []api.Class{c}}, api.ErrAsmLong)
}

// spoilt are programs of which layer 14 can't make bytes, each with its error.
func spoilt() map[string]struct {
	spoil func(p *api.Program)
	code  api.Errno
} {
	type one = struct {
		spoil func(p *api.Program)
		code  api.Errno
	}
	main := func(p *api.Program) *api.Method { return &p.Classes[0].Methods[0] }
	all := map[string]one{
		"classes":      {func(p *api.Program) { p.Classes = append(p.Classes, make([]api.Class, 40)...) }, api.ErrClassMany},
		"faces":        {func(p *api.Program) { p.Classes[0].Faces = make([]int, 9) }, api.ErrClassMany},
		"fields":       {func(p *api.Program) { p.Classes[0].Fields = make([]api.Field, 25) }, api.ErrClassMany},
		"statics":      {func(p *api.Program) { p.Classes[0].Statics = make([]api.Field, 25) }, api.ErrClassMany},
		"methods":      {func(p *api.Program) { p.Classes[0].Methods = make([]api.Method, 25) }, api.ErrClassMany},
		"args":         {func(p *api.Program) { main(p).Args = make([]int, 9) }, api.ErrClassMany},
		"instructions": {func(p *api.Program) { main(p).Code = make([]api.Ins, 301) }, api.ErrClassMany},
		"handlers":     {func(p *api.Program) { main(p).Table = make([]api.Handler, 17) }, api.ErrClassMany},
		"maps":         {func(p *api.Program) { main(p).Maps = make([]api.Map, 65) }, api.ErrClassMany},
		"map's locals": {func(p *api.Program) { main(p).Maps[0].Locals = make([]int, 25) }, api.ErrClassMany},
		"map's stack":  {func(p *api.Program) { main(p).Maps[0].Stack = make([]int, 25) }, api.ErrClassMany},
		"many, names": {func(p *api.Program) { p.Classes[0].Name, p.Classes[0].Faces = "", make([]int, 9) },
			api.ErrClassMany},
		"names, numbers": {func(p *api.Program) { p.Classes[0].Name, p.Main = "", math.MaxInt }, api.ErrClassName},
		"locals":         {func(p *api.Program) { main(p).Locals = 25 }, api.ErrClassForm},
		"no locals":      {func(p *api.Program) { main(p).Locals = -1 }, api.ErrClassForm},
		"stack":          {func(p *api.Program) { main(p).Stack = 25 }, api.ErrClassForm},
		"no stack":       {func(p *api.Program) { main(p).Stack = -1 }, api.ErrClassForm},
	}
	for _, x := range []int{math.MinInt, math.MinInt32 - 1, math.MaxInt32 + 1, math.MaxInt} {
		for word, number := range map[string]func(p *api.Program) *int{
			"Main":   func(p *api.Program) *int { return &p.Main },
			"Super":  func(p *api.Program) *int { return &p.Classes[1].Super },
			"Faces":  func(p *api.Program) *int { return &p.Classes[2].Faces[1] },
			"field":  func(p *api.Program) *int { return &p.Classes[2].Fields[1].Type },
			"static": func(p *api.Program) *int { return &p.Classes[0].Statics[0].Type },
			"Args":   func(p *api.Program) *int { return &p.Classes[1].Methods[0].Args[0] },
			"Ret":    func(p *api.Program) *int { return &main(p).Ret },
			"Op":     func(p *api.Program) *int { return &main(p).Code[0].Op },
			"A":      func(p *api.Program) *int { return &main(p).Code[0].A },
			"B":      func(p *api.Program) *int { return &main(p).Code[3].B },
			"From":   func(p *api.Program) *int { return &main(p).Table[0].From },
			"Class":  func(p *api.Program) *int { return &main(p).Table[1].Class },
			"At":     func(p *api.Program) *int { return &main(p).Maps[2].At },
			"Locals": func(p *api.Program) *int { return &main(p).Maps[0].Locals[1] },
			"Stack":  func(p *api.Program) *int { return &main(p).Maps[1].Stack[1] },
		} {
			all[word+" "+strconv.Itoa(x)] = one{func(p *api.Program) { *number(p) = x }, api.ErrClassForm}
		}
	}
	for _, name := range []string{"", "9", "a b", "a\n", "abcdefghijklmnopq", "é", "-"} {
		all["class "+name] = one{func(p *api.Program) { p.Classes[3].Name = name }, api.ErrClassName}
		all["field "+name] = one{func(p *api.Program) { p.Classes[2].Fields[0].Name = name }, api.ErrClassName}
		all["static "+name] = one{func(p *api.Program) { p.Classes[2].Statics[0].Name = name }, api.ErrClassName}
		all["method "+name] = one{func(p *api.Program) { p.Classes[1].Methods[0].Name = name }, api.ErrClassName}
	}
	return all
}

func TestP19_1WhatCantBeBytes(t *testing.T) {
	for word, one := range spoilt() {
		t.Run(word, func(t *testing.T) {
			p := smallProgram()
			one.spoil(&p)
			wantNoText(t, p, one.code)
			// An instruction that can't be written comes behind it.
			p.Classes = append(p.Classes, api.Class{Name: "Z", Methods: []api.Method{{Name: "z", Code: []api.Ins{{Op: 47}}}}})
			wantNoText(t, p, one.code)
		})
	}
}

func TestP19_1TheRowOfErrors(t *testing.T) {
	// 37 methods of 300 instructions have too many bytes, and a text that is too long.
	var tooLong api.Program
	for range 37 {
		if len(tooLong.Classes) == 0 || len(tooLong.Classes[0].Methods) == 24 {
			tooLong.Classes = slices.Insert(tooLong.Classes, 0, api.Class{Name: "A"})
		}
		first := &tooLong.Classes[0]
		first.Methods = append(first.Methods, api.Method{Name: "m", Code: slices.Repeat([]api.Ins{{Op: api.InsNotifyAll}}, 300)})
	}
	wantNoText(t, tooLong, api.ErrClassLong)
	tooLong.Classes[1].Methods[0].Code[0].A = 1
	wantNoText(t, tooLong, api.ErrClassLong)

	for _, i := range []api.Ins{{Op: 47}, {Op: -1}, {A: 1}, {B: 1}, {Op: api.InsInt, B: 1}, {Op: api.InsArith, A: 12}} {
		for _, at := range []int{0, 10, 21} {
			p := long(api.MaxText + 100)
			p.Classes[0].Methods[at].Code[1] = i
			wantNoText(t, p, api.ErrAsmForm)
		}
	}
}

func TestP19_1AnyProgram(t *testing.T) {
	r := random(1901)
	seen := map[api.Errno]int{}
	for range 3000 {
		p := r.program()
		isForm := false
		for c := range p.Classes {
			for m := range p.Classes[c].Methods {
				for i := range p.Classes[c].Methods[m].Code {
					ins := &p.Classes[c].Methods[m].Code[i]
					if r.once(10) {
						*ins = api.Ins{Op: r.next(50) - 1, A: r.next(16) - 2, B: r.next(3) - 1}
					}
					isForm = isForm || !isWritten(*ins)
				}
			}
		}
		want, wanted := "", api.ErrAsmForm
		if !isForm {
			want, wanted = plainText(p), api.OK
		}
		s, e := asm.Print(p)
		if s != want || e != wanted {
			t.Fatalf("Print(%+v) = %q, %d; want %q, %d", p, s, e, want, wanted)
		}
		seen[e]++
	}
	if seen[api.OK] < 500 || seen[api.ErrAsmForm] < 500 {
		t.Error(seen)
	}
}

func TestP19_3AProgramThereAndBack(t *testing.T) {
	r := random(193)
	for range 2000 {
		p := r.program()
		s, e := asm.Print(p)
		if e != api.OK {
			t.Fatal(e)
		}
		wantParsed(t, s, p)
	}
	wantParsed(t, small, smallProgram())
}

func TestP19_3ATextThereAndBack(t *testing.T) {
	r := random(1903)
	taken := 0
	for range 20000 {
		text := r.spoiltText()
		p, _, e := asm.Parse(text)
		if e != api.OK {
			continue
		}
		taken++
		wantPrinted(t, p, strings.TrimSuffix(text, "\n")+"\n")
	}
	if taken < 1000 {
		t.Error(taken)
	}
}

// TestP19_3TheLongestText: a text of MaxText bytes is taken without its last LF too, but the one with it can't be written.
func TestP19_3TheLongestText(t *testing.T) {
	text, e := asm.Print(long(api.MaxText))
	if e != api.OK {
		t.Fatal(e)
	}
	p, _, e := asm.Parse(text)
	if e != api.OK {
		t.Fatal(e)
	}
	wantPrinted(t, p, text)

	text = strings.TrimSuffix(plainText(long(api.MaxText+1)), "\n")
	p, line, e := asm.Parse(text)
	if len(text) != api.MaxText || line != 0 || e != api.OK {
		t.Fatal(len(text), line, e)
	}
	wantNoText(t, p, api.ErrAsmLong)
}

func TestR4PrintChangesNothing(t *testing.T) {
	p := smallProgram()
	spare := append(make([]int, 0, 8), 16, 17)
	p.Classes[0].Methods[0].Maps[1].Locals = spare
	faces := append(make([]int, 0, 8), 12, 14)
	p.Classes[2].Faces = faces
	args := append(make([]int, 0, 8), 1, 29)
	p.Classes[0].Methods[1].Args = args
	wantPrinted(t, p, small)
	for _, list := range [][]int{spare, faces, args} {
		if slices.ContainsFunc(list[2:8], func(x int) bool { return x != 0 }) {
			t.Errorf("%v", list[:8])
		}
	}
	if !reflect.DeepEqual(p, smallProgram()) {
		t.Errorf("%+v", p)
	}
}

func TestR5PrintFromSeveralGoroutines(t *testing.T) {
	p := smallProgram()
	var group sync.WaitGroup
	for range 8 {
		group.Go(func() {
			for range 50 {
				wantPrinted(t, p, small)
				wantParsed(t, small, smallProgram())
				wantNoText(t, ofIns(api.Ins{A: 1}), api.ErrAsmForm)
			}
		})
	}
	group.Wait()
}

func BenchmarkPrint(b *testing.B) {
	p := long(api.MaxText)
	for range b.N {
		asm.Print(p)
	}
}

func BenchmarkParse(b *testing.B) {
	text := plainText(long(api.MaxText))
	for range b.N {
		asm.Parse(text)
	}
}
