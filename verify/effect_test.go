package verify_test

import (
	"strings"
	"testing"

	"gneiss/api"
	"gneiss/types"
	"gneiss/verify"
)

// effects is what instructions pop and push, by the chapters' tables; x and y are any types, ref any Ref.
const effects = `nop : >
int -5 : > int
null : > null
load 0 : > int
load 1 : > square
load 2 : > refs
load 3 : > null
store 0 : x >
store 4 : x >
pop : x >
dup : x > x x
swap : x y > y x
arith add : int int > int
arith sub : int int > int
arith mul : int int > int
arith div : int int > int
arith rem : int int > int
arith neg : int > int
arith and : int int > int
arith or : int int > int
arith xor : int int > int
arith shl : int int > int
arith shr : int int > int
arith ushr : int int > int
new 0 : > object
new 1 : > throwable
new 9 : > thread
new 13 : > shape
new 14 : > square
new 15 : > trouble
getfield 13 0 : shape > int
getfield 13 1 : shape > shape
getfield 13 2 : shape > ints
getfield 13 3 : shape > refs
getfield 13 4 : shape > shaped
putfield 13 0 : shape int >
putfield 13 1 : shape shape >
putfield 13 2 : shape ints >
putfield 13 3 : shape refs >
putfield 13 4 : shape shaped >
getstatic 11 0 : > int
getstatic 11 1 : > shape
getstatic 11 2 : > ints
getstatic 11 3 : > refs
getstatic 11 4 : > shaped
putstatic 11 0 : int >
putstatic 11 1 : shape >
putstatic 11 2 : ints >
putstatic 11 3 : refs >
putstatic 11 4 : shaped >
newints : int > ints
newrefs : int > refs
length : array > int
getint : ints int > int
putint : ints int int >
getref : refs int > object
putref : refs int ref >
callstatic 11 2 : >
callstatic 11 3 : int shape > int
callstatic 11 4 : > refs
callvirtual 13 0 : shape int > shape
callvirtual 13 1 : shape >
callvirtual 13 2 : shape refs square > ints
callvirtual 9 0 : thread >
callface 12 0 : shaped int > shape
callface 12 1 : shaped >
is 0 : ref > int
is 12 : ref > int
cast 0 : ref > object
cast 10 : ref > weak
cast 12 : ref > shaped
cast 14 : ref > square
enter : ref >
leave : ref >
wait : ref >
notify : ref >
notifyall : ref >
start : thread >
join : thread >
print : int >
read : > int
makeweak : ref > weak
deref : weak > object
collect : >`

// ending is the same for what ends or jumps; a jump's target is 3.
const ending = `goto 3 : >
ifzero 3 : int >
ifless 3 : int int >
ifsame 3 : ref ref >
ifnull 3 : ref >
return : >
throw : throwable >`

var everyType = []int{api.TypeInt, api.TypeNull, api.TypeInts, api.TypeRefs, typeOf(api.ClassObject),
	typeOf(api.ClassThrowable), typeOf(api.ClassThread), typeOf(api.ClassWeak), typeOf(shaped), typeOf(shape), typeOf(square),
	typeOf(trouble), typeOf(worker), typeOf(mainClass), typeOf(api.ClassMemoryFault)}

// byWord is the types of the words of effects.
var byWord = map[string]int{"int": api.TypeInt, "null": api.TypeNull, "ints": api.TypeInts, "refs": api.TypeRefs,
	"object": typeOf(0), "throwable": typeOf(1), "thread": typeOf(9), "weak": typeOf(10), "shaped": typeOf(shaped),
	"shape": typeOf(shape), "square": typeOf(square), "trouble": typeOf(trouble)}

// stateBefore is the locals ahead of each instruction of effects.
var stateBefore = []int{api.TypeInt, typeOf(square), api.TypeRefs, api.TypeNull, api.TypeNone}

func takes(ls []api.Layout, have int, word string) bool {
	switch word {
	case "x", "y":
		return true
	case "ref":
		return have != api.TypeInt
	case "array":
		return have == api.TypeInts || have == api.TypeRefs || have == api.TypeNull
	}
	return types.Fits(ls, have, byWord[word])
}

// stacks is all of up to most types, each once.
func stacks(most int) [][]int {
	all := [][]int{nil}
	for from := 0; most > 0; most-- {
		to := len(all)
		for _, one := range all[from:to] {
			for _, x := range everyType {
				all = append(all, append(append([]int{}, one...), x))
			}
		}
		from = to
	}
	return all
}

// pushed is what stands on the stack behind an instruction.
func pushed(stack []int, pops, pushes []string) []int {
	left := len(stack) - len(pops)
	behind := append([]int{}, stack[:left]...)
	for _, word := range pushes {
		switch word {
		case "x":
			behind = append(behind, stack[left])
		case "y":
			behind = append(behind, stack[left+1])
		default:
			behind = append(behind, byWord[word])
		}
	}
	return behind
}

// wantedCode is what an instruction comes to ahead of what it pushes.
func wantedCode(ls []api.Layout, stack []int, pops []string) api.Errno {
	left := len(stack) - len(pops)
	if left < 0 {
		return api.ErrVerifyStack
	}
	for i, word := range pops {
		if !takes(ls, stack[left+i], word) {
			return api.ErrVerifyType
		}
	}
	return api.OK
}

func cut(row string) (text string, pops, pushes []string) {
	text, types, _ := strings.Cut(row, " : ")
	before, behind, _ := strings.Cut(types, ">")
	return text, strings.Fields(before), strings.Fields(behind)
}

// between has the instruction at place 1, in a state of its own; behind is the map behind it.
func between(t *testing.T, text string, room int, stack []int, behind []int) api.Method {
	t.Helper()
	unknown := make([]int, len(stateBefore))
	return method(t, len(unknown), room, "return;"+text+";return", mapAt(1, stateBefore, stack...), mapAt(2, unknown, behind...))
}

func TestP18_1WhatIsPopped(t *testing.T) {
	p := program(method(t, 0, 0, "return"))
	ls := loaded(t, p)
	for _, row := range strings.Split(effects, "\n") {
		text, pops, pushes := cut(row)
		for _, stack := range stacks(max(2, len(pops))) {
			code, place := wantedCode(ls, stack, pops), 1
			behind := []int(nil)
			if code == api.OK {
				behind, place = pushed(stack, pops, pushes), 0
			}
			p.Classes[0].Methods[1] = between(t, text, 4, stack, behind)
			if at, e := verify.Method(p, ls, mainClass, 1); at != place || e != code {
				t.Errorf("%s, on %v: %d, %d; want %d, %d", text, stack, at, e, place, code)
			}
		}
	}
}

func TestP18_1WhatIsPushed(t *testing.T) {
	p := program(method(t, 0, 0, "return"))
	ls := loaded(t, p)
	for _, row := range strings.Split(effects, "\n") {
		text, pops, pushes := cut(row)
		stack := []int{typeOf(trouble), api.TypeInt, typeOf(square), api.TypeInts, typeOf(worker)}
		for _, word := range pops {
			for _, x := range []int{api.TypeInt, typeOf(square), api.TypeInts, api.TypeRefs, typeOf(worker), typeOf(10)} {
				if takes(ls, x, word) {
					stack = append(stack, x)
					break
				}
			}
		}
		behind := pushed(stack, pops, pushes)
		for place := range behind {
			for _, x := range everyType {
				asked := append([]int{}, behind...)
				asked[place] = x
				m := between(t, text, 9, stack, asked)
				if types.Fits(ls, behind[place], x) {
					wantTaken(t, m)
				} else {
					want(t, m, 2, api.ErrVerifyMap)
				}
			}
		}
		want(t, between(t, text, 9, stack, behind[1:]), 2, api.ErrVerifyMap)
		want(t, between(t, text, 9, stack, append(behind, api.TypeNull)), 2, api.ErrVerifyMap)
		if len(behind) > len(stack) {
			wantTaken(t, between(t, text, len(behind), stack, behind))
			want(t, between(t, text, len(stack), stack, nil), 1, api.ErrVerifyStack)
		}
	}
}

func TestP18_1WhatEndsAndJumpsPops(t *testing.T) {
	p := program(method(t, 0, 0, "return"))
	ls := loaded(t, p)
	for _, row := range strings.Split(ending, "\n") {
		text, pops, _ := cut(row)
		for _, stack := range stacks(2) {
			code, place := wantedCode(ls, stack, pops), 1
			behind := []int(nil)
			if code == api.OK {
				behind, place = pushed(stack, pops, nil), 0
			}
			m := method(t, 0, 4, "return;"+text+";return;return", mapAt(1, nil, stack...), mapAt(2, nil, behind...),
				mapAt(3, nil, behind...))
			p.Classes[0].Methods[1] = m
			if at, e := verify.Method(p, ls, mainClass, 1); at != place || e != code {
				t.Errorf("%s, on %v: %d, %d; want %d, %d", text, stack, at, e, place, code)
			}
		}
	}
}

func TestP18_1WhatIsGivenBack(t *testing.T) {
	p := program(method(t, 0, 0, "return"))
	ls := loaded(t, p)
	for _, ret := range append([]int{api.TypeNone}, everyType...) {
		if ret == api.TypeNull {
			continue // layer 15 takes no such Ret
		}
		for _, stack := range stacks(2) {
			top := api.TypeNone
			if len(stack) > 0 {
				top = stack[len(stack)-1]
			}
			isRef := ret != api.TypeNone && ret != api.TypeInt
			for text, isRight := range map[string]bool{
				"return":  ret == api.TypeNone,
				"giveint": ret == api.TypeInt && top == api.TypeInt,
				"giveref": isRef && top != api.TypeInt && types.Fits(ls, top, ret),
			} {
				place, code := 2, api.OK
				switch {
				case text != "return" && len(stack) == 0:
					code = api.ErrVerifyStack
				case !isRight:
					code = api.ErrVerifyType
				default:
					place = 0
				}
				p.Classes[0].Methods[1] = giving(ret, method(t, 0, 2, "null;throw;"+text, mapAt(2, nil, stack...)))
				if at, e := verify.Method(p, ls, mainClass, 1); at != place || e != code {
					t.Errorf("%s of %d, on %v: %d, %d; want %d, %d", text, ret, stack, at, e, place, code)
				}
			}
		}
	}
}
