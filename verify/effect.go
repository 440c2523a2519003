package verify

import (
	"gneiss/api"
	"gneiss/types"
)

// What is popped may be asked for by a type, or by one of these, which are the types of no value. By layer 17 anything
// fits TypeNone.
const (
	anything = api.TypeNone
	nothing  = -1
	anyRef   = -2
	anyArray = -3
)

func ofClass(class int) int {
	return api.TypeClass + class
}

func (w *walk) isRight(have int, want int) bool {
	switch want {
	case anyRef:
		return types.Ref(have)
	case anyArray:
		return have == api.TypeInts || have == api.TypeRefs || have == api.TypeNull
	}
	return types.Fits(w.ls, have, want)
}

// pops is what an instruction asks for on the stack, the deepest first.
func (w *walk) pops(i api.Ins) []int {
	switch i.Op {
	case api.InsStore, api.InsPop, api.InsDup:
		return []int{anything}
	case api.InsSwap:
		return []int{anything, anything}
	case api.InsArith:
		return operands(i.A)
	case api.InsIfZero, api.InsNewInts, api.InsNewRefs, api.InsPrint:
		return []int{api.TypeInt}
	case api.InsIfLess:
		return []int{api.TypeInt, api.TypeInt}
	case api.InsIfSame:
		return []int{anyRef, anyRef}
	case api.InsIfNull, api.InsIs, api.InsCast, api.InsMakeWeak,
		api.InsEnter, api.InsLeave, api.InsWait, api.InsNotify, api.InsNotifyAll:
		return []int{anyRef}
	case api.InsGetField:
		return []int{ofClass(i.A)}
	case api.InsPutField:
		return []int{ofClass(i.A), w.field(i).Type}
	case api.InsPutStatic:
		return []int{w.static(i).Type}
	case api.InsLength:
		return []int{anyArray}
	case api.InsGetInt:
		return []int{api.TypeInts, api.TypeInt}
	case api.InsPutInt:
		return []int{api.TypeInts, api.TypeInt, api.TypeInt}
	case api.InsGetRef:
		return []int{api.TypeRefs, api.TypeInt}
	case api.InsPutRef:
		return []int{api.TypeRefs, api.TypeInt, anyRef}
	case api.InsCallStatic:
		return w.called(i).Args
	case api.InsCallVirtual, api.InsCallFace:
		return append([]int{ofClass(i.A)}, w.called(i).Args...)
	case api.InsGiveInt, api.InsGiveRef:
		return []int{w.given(i.Op)}
	case api.InsThrow:
		return []int{ofClass(api.ClassThrowable)}
	case api.InsStart, api.InsJoin:
		return []int{ofClass(api.ClassThread)}
	case api.InsDeref:
		return []int{ofClass(api.ClassWeak)}
	}
	return nil
}

// pushes is what an instruction leaves on the stack in place of what it popped, the deepest first.
func (w *walk) pushes(i api.Ins, popped []int) []int {
	switch i.Op {
	case api.InsInt, api.InsArith, api.InsLength, api.InsGetInt, api.InsIs, api.InsRead:
		return []int{api.TypeInt}
	case api.InsNull:
		return []int{api.TypeNull}
	case api.InsLoad:
		return []int{w.now.locals[i.A]}
	case api.InsDup:
		return []int{popped[0], popped[0]}
	case api.InsSwap:
		return []int{popped[1], popped[0]}
	case api.InsNew, api.InsCast:
		return []int{ofClass(i.A)}
	case api.InsGetField:
		return []int{w.field(i).Type}
	case api.InsGetStatic:
		return []int{w.static(i).Type}
	case api.InsNewInts:
		return []int{api.TypeInts}
	case api.InsNewRefs:
		return []int{api.TypeRefs}
	case api.InsGetRef, api.InsDeref:
		return []int{ofClass(api.ClassObject)}
	case api.InsCallStatic, api.InsCallVirtual, api.InsCallFace:
		return returned(w.called(i))
	case api.InsMakeWeak:
		return []int{ofClass(api.ClassWeak)}
	}
	return nil
}

func operands(operation int) []int {
	if operation == api.ArithNeg {
		return []int{api.TypeInt}
	}
	return []int{api.TypeInt, api.TypeInt}
}

// given is what a method may give back by an instruction; nothing, if not in this way.
func (w *walk) given(op int) int {
	ret := w.m.Ret
	if op == api.InsGiveInt && ret == api.TypeInt || op == api.InsGiveRef && types.Ref(ret) {
		return ret
	}
	return nothing
}

func returned(m api.Method) []int {
	if m.Ret == api.TypeNone {
		return nil
	}
	return []int{m.Ret}
}

func (w *walk) class(number int) api.Class {
	return w.p.Classes[number-api.FirstClass]
}

func (w *walk) field(i api.Ins) api.Field {
	return w.class(i.A).Fields[i.B]
}

func (w *walk) static(i api.Ins) api.Field {
	return w.class(i.A).Statics[i.B]
}

// called is the method that a call names; ClassThread's has neither Args nor Ret.
func (w *walk) called(i api.Ins) api.Method {
	if i.A == api.ClassThread {
		return api.Method{}
	}
	return w.class(i.A).Methods[i.B]
}
