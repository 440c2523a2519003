package verify_test

import (
	"slices"
	"strings"
	"testing"

	"gneiss/api"
	"gneiss/code"
	"gneiss/load"
	"gneiss/types"
	"gneiss/verify"
)

// plainMethod does the chapter's words of P18.1 one by one.
func plainMethod(p api.Program, ls []api.Layout, class, number int) (int, api.Errno) {
	if at, e := code.Check(p, class, number); e != api.OK {
		return at, api.ErrVerifyForm
	}
	m := p.Classes[class-11].Methods[number]
	maps := map[int]*api.Map{}
	last := -1
	for i := range m.Maps {
		x := &m.Maps[i]
		if x.At < 0 || x.At >= len(m.Code) || x.At <= last || len(x.Locals) != m.Locals || len(x.Stack) > m.Stack {
			return x.At, api.ErrVerifyForm
		}
		for _, one := range append(slices.Clone(x.Stack), x.Locals...) {
			if types.Text(one) == "?" || one-16 >= 11+len(p.Classes) {
				return x.At, api.ErrVerifyForm
			}
		}
		if slices.Contains(x.Stack, api.TypeNone) {
			return x.At, api.ErrVerifyForm
		}
		last, maps[x.At] = x.At, x
	}
	for _, h := range m.Table {
		if h.From >= h.To || h.To > len(m.Code) || h.From < 0 || maps[h.At] == nil || !load.Is(ls, h.Class, 1) ||
			len(maps[h.At].Stack) != 1 || maps[h.At].Stack[0] != 16+h.Class {
			return h.From, api.ErrVerifyTable
		}
	}
	var locals, stack []int
	if !m.Static {
		locals = append(locals, 16+class)
	}
	locals = append(locals, m.Args...)
	locals = append(locals, make([]int, m.Locals-len(locals))...)
	for at := range m.Code {
		var e api.Errno
		if locals, stack, e = plainPlace(p, ls, m, maps, at, locals, stack); e != api.OK {
			return at, e
		}
	}
	return 0, api.OK
}

// plainPlace is the state behind a place, or its first fault.
func plainPlace(p api.Program, ls []api.Layout, m api.Method, maps map[int]*api.Map, at int, locals, stack []int) ([]int, []int, api.Errno) {
	ended := at > 0 && strings.Contains(" goto return giveint giveref throw ", " "+code.Names()[m.Code[at-1].Op]+" ")
	if x := maps[at]; x != nil {
		if !ended && !(types.All(ls, locals, x.Locals) && types.All(ls, stack, x.Stack)) {
			return nil, nil, api.ErrVerifyMap
		}
		locals, stack = x.Locals, x.Stack
	} else if ended {
		return nil, nil, api.ErrVerifyMap
	}
	covered := func(locals []int) bool {
		for _, h := range m.Table {
			if h.From <= at && at < h.To && !types.All(ls, locals, maps[h.At].Locals) {
				return false
			}
		}
		return true
	}
	if !covered(locals) {
		return nil, nil, api.ErrVerifyTable
	}
	locals, stack = slices.Clone(locals), slices.Clone(stack)
	i := m.Code[at]
	words := strings.Fields(plainSign(p, m, i))
	arrow := slices.Index(words, ">")
	if len(stack) < arrow {
		return nil, nil, api.ErrVerifyStack
	}
	popped := slices.Clone(stack[len(stack)-arrow:])
	stack = stack[:len(stack)-arrow]
	for n, word := range words[:arrow] {
		if !plainTakes(ls, m, popped[n], word) {
			return nil, nil, api.ErrVerifyType
		}
	}
	if i.Op == api.InsReturn && m.Ret != 0 {
		return nil, nil, api.ErrVerifyType
	}
	if i.Op == api.InsLoad && locals[i.A] == 0 {
		return nil, nil, api.ErrVerifyLocal
	}
	for _, word := range words[arrow+1:] {
		switch word {
		case "x":
			stack = append(stack, popped[0])
		case "y":
			stack = append(stack, popped[1])
		case "local":
			stack = append(stack, locals[i.A])
		default:
			stack = append(stack, plainType(word))
		}
	}
	if len(stack) > m.Stack {
		return nil, nil, api.ErrVerifyStack
	}
	switch code.Names()[i.Op] {
	case "store":
		locals[i.A] = popped[0]
		if !covered(locals) {
			return nil, nil, api.ErrVerifyTable
		}
	case "goto", "ifzero", "ifless", "ifsame", "ifnull":
		if maps[i.A] == nil {
			return nil, nil, api.ErrVerifyTarget
		}
		if !types.All(ls, locals, maps[i.A].Locals) || !types.All(ls, stack, maps[i.A].Stack) {
			return nil, nil, api.ErrVerifyMap
		}
	}
	return locals, stack, api.OK
}

// plainType is the type of a word: its own, or one of a class by its letter.
func plainType(word string) int {
	switch word {
	case "int":
		return 1
	case "null":
		return 2
	case "ints":
		return 3
	case "refs":
		return 4
	}
	return 16 + int(word[0]-'A')
}

// plainWord is the word of a type.
func plainWord(x int) string {
	switch {
	case x == 0:
		return ""
	case x < 16:
		return []string{"int", "null", "ints", "refs"}[x-1]
	}
	return string(rune('A' + x - 16))
}

func plainTakes(ls []api.Layout, m api.Method, have int, word string) bool {
	switch word {
	case "x", "y":
		return true
	case "ref":
		return have > 1
	case "array":
		return have >= 2 && have <= 4
	case "giveint":
		return have == 1 && m.Ret == 1
	case "giveref":
		return have > 1 && m.Ret > 1 && types.Fits(ls, have, m.Ret)
	}
	return types.Fits(ls, have, plainType(word))
}

// plainSign is what an instruction pops and pushes, in words; A to Q are the classes from ClassObject on.
func plainSign(p api.Program, m api.Method, i api.Ins) string {
	a := plainWord(16 + max(0, min(i.A, 40)))
	own := api.Class{Methods: []api.Method{{Name: "run"}}}
	if i.A >= 11 && i.A < 11+len(p.Classes) {
		own = p.Classes[i.A-11]
	}
	args := func() string {
		words := ""
		for _, x := range own.Methods[i.B].Args {
			words += plainWord(x) + " "
		}
		return words + "> " + plainWord(own.Methods[i.B].Ret)
	}
	switch word := code.Names()[i.Op]; word {
	case "int", "read":
		return "> int"
	case "null":
		return "> null"
	case "load":
		return "> local"
	case "store", "pop":
		return "x >"
	case "dup":
		return "x > x x"
	case "swap":
		return "x y > y x"
	case "arith":
		if i.A == api.ArithNeg {
			return "int > int"
		}
		return "int int > int"
	case "ifzero", "print":
		return "int >"
	case "ifless":
		return "int int >"
	case "ifsame":
		return "ref ref >"
	case "ifnull", "enter", "leave", "wait", "notify", "notifyall":
		return "ref >"
	case "new":
		return "> " + a
	case "getfield":
		return a + " > " + plainWord(own.Fields[i.B].Type)
	case "putfield":
		return a + " " + plainWord(own.Fields[i.B].Type) + " >"
	case "getstatic":
		return "> " + plainWord(own.Statics[i.B].Type)
	case "putstatic":
		return plainWord(own.Statics[i.B].Type) + " >"
	case "newints":
		return "int > ints"
	case "newrefs":
		return "int > refs"
	case "length":
		return "array > int"
	case "getint":
		return "ints int > int"
	case "putint":
		return "ints int int >"
	case "getref":
		return "refs int > A"
	case "putref":
		return "refs int ref >"
	case "callstatic":
		return args()
	case "callvirtual", "callface":
		return a + " " + args()
	case "giveint", "giveref":
		return word + " >"
	case "throw":
		return "B >"
	case "is":
		return "ref > int"
	case "cast":
		return "ref > " + a
	case "start", "join":
		return "J >"
	case "makeweak":
		return "ref > K"
	case "deref":
		return "K > A"
	}
	return ">"
}

// A builder makes a method that is mostly right, instruction by instruction.
type builder struct {
	*random
	p             api.Program
	ls            []api.Layout
	m             api.Method
	maps          map[int]*api.Map
	locals, stack []int
	open          []jump
}

// A jump's target is not there yet.
type jump struct {
	at            int
	locals, stack []int
}

// wider is a type that x fits, often x.
func (b *builder) wider(x int, isLocal bool) int {
	if isLocal && b.once(4) {
		return api.TypeNone
	}
	if b.once(3) {
		for range 5 {
			if y := pick(b.random, everyType...); x != 0 && types.Fits(b.ls, x, y) {
				return y
			}
		}
	}
	return x
}

func (b *builder) putMap(locals, stack []int) {
	x := api.Map{At: len(b.m.Code)}
	for _, one := range locals {
		x.Locals = append(x.Locals, b.wider(one, true))
	}
	for _, one := range stack {
		x.Stack = append(x.Stack, b.wider(one, false))
	}
	b.m.Maps = append(b.m.Maps, x)
	b.maps[x.At] = &x
	b.locals, b.stack = slices.Clone(x.Locals), slices.Clone(x.Stack)
}

var operandTexts = strings.Fields("new_0 new_9 new_13 new_14 new_15 getfield_13_0 getfield_13_1 getfield_13_2 getfield_13_3 " +
	"putfield_13_0 putfield_13_1 putfield_13_2 putfield_13_4 getstatic_11_0 getstatic_11_1 getstatic_11_2 getstatic_11_3 " +
	"putstatic_11_0 putstatic_11_1 putstatic_11_3 putstatic_11_4 callstatic_11_2 callstatic_11_3 callstatic_11_4 " +
	"callvirtual_13_0 callvirtual_13_1 callvirtual_13_2 callvirtual_9_0 callface_12_0 callface_12_1 is_0 is_12 cast_13 cast_14 " +
	"cast_12 cast_10 int_7 null read arith_add arith_neg newints newrefs length getint putint getref putref dup swap pop " +
	"start join enter leave wait notify notifyall print makeweak deref collect nop load_0 load_1 load_2 store_0 store_1 store_2")

func (b *builder) ins() api.Ins {
	i, _ := code.Parse(strings.ReplaceAll(pick(b.random, operandTexts...), "_", " "))
	if b.once(8) {
		i, _ = code.Parse(pick(b.random, "goto", "ifzero", "ifless", "ifsame", "ifnull") + " 0")
		if len(b.m.Maps) > 0 {
			i.A = pick(b.random, b.m.Maps...).At
		}
	}
	return i
}

// put tries an instruction; it stays if it is right, or once in a while.
func (b *builder) put(i api.Ins) bool {
	at := len(b.m.Code)
	b.m.Code = append(b.m.Code, i)
	isOpen := i.Op >= api.InsGoto && i.Op <= api.InsIfNull && b.once(2)
	if isOpen {
		i.A, b.maps[-1] = -1, &api.Map{Locals: make([]int, len(b.locals)), Stack: slices.Clone(b.stack)}
		words := strings.Fields(plainSign(b.p, b.m, i))
		b.maps[-1].Stack = b.maps[-1].Stack[:max(0, len(b.stack)-slices.Index(words, ">"))]
		b.m.Code[at] = i
	}
	locals, stack, e := plainPlace(b.p, b.ls, b.m, b.maps, at, b.locals, b.stack)
	if e != api.OK && !b.once(150) || at > 0 && b.maps[at] == nil && code.Ends(b.m.Code[at-1].Op) {
		b.m.Code = b.m.Code[:at]
		return false
	}
	if e == api.OK {
		b.locals, b.stack = locals, stack
		if isOpen {
			b.open = append(b.open, jump{at, locals, stack})
		}
	}
	if isOpen && e != api.OK {
		b.m.Code[at].A = 0
	}
	return true
}

// turn ends what goes on, and begins where an open jump goes to.
func (b *builder) turn() {
	if len(b.open) == 0 || len(b.m.Maps) > 0 && b.m.Maps[len(b.m.Maps)-1].At == len(b.m.Code) {
		return
	}
	to := b.open[0]
	if !code.Ends(b.m.Code[len(b.m.Code)-1].Op) && !b.give() {
		return
	}
	b.open = b.open[1:]
	b.m.Code[to.at].A = len(b.m.Code)
	b.putMap(to.locals, to.stack)
}

func (b *builder) give() bool {
	for _, text := range []string{"return", "giveint", "giveref", "throw"} {
		i, _ := code.Parse(text)
		if b.put(i) {
			return true
		}
	}
	return false
}

// build makes a body, and handlers behind it.
func (b *builder) build() {
	b.m = api.Method{Static: b.once(2), Locals: 3 + b.next(2), Stack: 2 + b.next(4), Name: "under",
		Ret: pick(b.random, 0, 0, 1, typeOf(shape), api.TypeInts)}
	b.locals = []int{pick(b.random, 1, 3, 4, typeOf(square))}
	b.m.Args = slices.Clone(b.locals)
	if !b.m.Static {
		b.locals = append([]int{typeOf(mainClass)}, b.locals...)
	}
	b.locals = append(b.locals, make([]int, b.m.Locals-len(b.locals))...)
	b.stack, b.maps, b.open = nil, map[int]*api.Map{}, nil
	for range 5 + b.next(25) {
		if b.once(6) && b.maps[len(b.m.Code)] == nil {
			b.putMap(b.locals, b.stack)
		}
		for range 12 {
			if b.put(b.ins()) {
				break
			}
		}
		if b.once(5) && len(b.m.Code) > 0 {
			b.turn()
		}
	}
	for _, to := range b.open {
		b.m.Code = append(b.m.Code, api.Ins{Op: api.InsNull}, api.Ins{Op: api.InsThrow})
		b.m.Code[to.at].A = len(b.m.Code)
		b.putMap(to.locals, to.stack)
		b.m.Code = append(b.m.Code, api.Ins{Op: api.InsNop})
	}
	b.m.Code = append(b.m.Code, api.Ins{Op: api.InsNull}, api.Ins{Op: api.InsThrow})
	b.handlers()
}

func (b *builder) handlers() {
	length := len(b.m.Code)
	for range b.next(3) {
		class := pick(b.random, api.ClassThrowable, trouble, api.ClassMemoryFault)
		from := b.next(length)
		to := from + 1 + b.next(min(4, length-from))
		locals := make([]int, b.m.Locals)
		if b.once(2) {
			locals[b.next(2)] = pick(b.random, b.m.Args[0], typeOf(mainClass), typeOf(0))
		}
		b.m.Table = append(b.m.Table, api.Handler{From: from, To: to, At: len(b.m.Code), Class: class})
		b.m.Maps = append(b.m.Maps, api.Map{At: len(b.m.Code), Locals: locals, Stack: []int{typeOf(class)}})
		b.m.Code = append(b.m.Code, api.Ins{Op: api.InsThrow})
	}
}

// spoil changes one thing somewhere.
func (b *builder) spoil() {
	number := pick(b.random, -1, 0, 1, 2, 3, 4, 16, 17, 27, 28, 29, 30, 31, b.next(40))
	switch b.next(9) {
	case 0:
		b.m.Stack = max(0, b.m.Stack+pick(b.random, -1, -2, 1))
	case 1:
		b.m.Ret = pick(b.random, 0, 1, 3, 4, typeOf(shape), typeOf(0))
	case 2, 3:
		b.m.Code[b.next(len(b.m.Code))] = b.ins()
	case 4:
		b.m.Code[b.next(len(b.m.Code))].A = number
	case 5:
		if len(b.m.Maps) > 0 {
			b.m.Maps[b.next(len(b.m.Maps))].At += pick(b.random, -1, 1)
		}
	case 6:
		if len(b.m.Maps) > 0 {
			x := &b.m.Maps[b.next(len(b.m.Maps))]
			x.Locals[b.next(len(x.Locals))] = number
		}
	case 7:
		if len(b.m.Maps) > 0 {
			x := &b.m.Maps[b.next(len(b.m.Maps))]
			if len(x.Stack) > 0 {
				x.Stack[b.next(len(x.Stack))] = number
			} else {
				x.Stack = []int{number}
			}
		}
	case 8:
		if len(b.m.Table) > 0 {
			h := &b.m.Table[b.next(len(b.m.Table))]
			*pick(b.random, &h.From, &h.To, &h.At, &h.Class) += pick(b.random, -5, -1, 1, 5)
		}
	}
}

func TestP18_1AsTheChapterDonePlainly(t *testing.T) {
	r := random(18)
	p := program(method(t, 0, 0, "return"))
	b := &builder{random: &r, p: p, ls: loaded(t, p)}
	seen := map[api.Errno]int{}
	deepest := 0
	for range 12000 {
		b.build()
		if !r.once(3) {
			b.spoil()
		}
		p.Classes[0].Methods[1] = b.m
		at, e := verify.Method(p, b.ls, mainClass, 1)
		if wantAt, want := plainMethod(p, b.ls, mainClass, 1); at != wantAt || e != want {
			t.Fatalf("Method of %+v = %d, %d; want %d, %d", b.m, at, e, wantAt, want)
		}
		seen[e]++
		deepest = max(deepest, at)
	}
	if deepest < 20 {
		t.Errorf("no fault is deeper than %d", deepest)
	}
	for _, e := range []api.Errno{api.OK, api.ErrVerifyForm, api.ErrVerifyStack, api.ErrVerifyType, api.ErrVerifyLocal,
		api.ErrVerifyMap, api.ErrVerifyTable, api.ErrVerifyTarget} {
		if seen[e] < 40 {
			t.Errorf("only %d methods with error %d", seen[e], e)
		}
	}
}
