package model

import (
	"gneiss/api"
	"gneiss/arith"
)

// A turn is an instruction that a thread does in its top frame. What that throws is told by the object's number; null is
// that it throws nothing.
type turn struct {
	*Machine
	*frame
	thread  *thread
	number  int
	isShort bool // whether there is no room for what is made
}

// fault is the machine's own object of a fault's class.
func fault(class int) int {
	return class - api.ClassNullFault + 1
}

func (u *turn) do(i api.Ins) int {
	switch i.Op {
	case api.InsInt, api.InsNull, api.InsLoad, api.InsStore, api.InsPop, api.InsDup, api.InsSwap:
		u.move(i)
	case api.InsGoto, api.InsIfZero, api.InsIfLess, api.InsIfSame, api.InsIfNull:
		u.jump(i)
	case api.InsGetStatic, api.InsPutStatic:
		u.useStatic(i)
	case api.InsPrint, api.InsRead:
		u.talk(i.Op)
	case api.InsReturn, api.InsGiveInt, api.InsGiveRef:
		u.giveBack(i.Op)
	case api.InsArith:
		return u.arith(i.A)
	case api.InsNew, api.InsNewInts, api.InsNewRefs, api.InsMakeWeak:
		return u.make(i)
	case api.InsGetField, api.InsPutField:
		return u.useField(i)
	case api.InsLength, api.InsDeref:
		return u.look(i.Op)
	case api.InsGetInt, api.InsPutInt, api.InsGetRef, api.InsPutRef:
		return u.useElement(i.Op)
	case api.InsCallStatic, api.InsCallVirtual, api.InsCallFace:
		return u.call(i)
	case api.InsThrow:
		return u.thrown()
	case api.InsIs, api.InsCast:
		return u.ask(i)
	case api.InsEnter, api.InsLeave, api.InsWait, api.InsNotify, api.InsNotifyAll:
		return u.useMonitor(i.Op)
	case api.InsStart:
		return u.start()
	case api.InsJoin:
		return u.join()
	}
	return null
}

// popWord takes a number off, or an object's; since the program was taken, it is what the instruction asks for.
func (u *turn) popWord() int {
	return int(u.pop().word)
}

func (u *turn) move(i api.Ins) {
	switch i.Op {
	case api.InsInt:
		u.push(numberOf(i.A))
	case api.InsNull:
		u.push(refTo(null))
	case api.InsLoad:
		u.push(u.locals[i.A])
	case api.InsStore:
		u.locals[i.A] = u.pop()
	case api.InsPop:
		u.pop()
	case api.InsDup:
		x := u.pop()
		u.push(x, x)
	case api.InsSwap:
		y, x := u.pop(), u.pop()
		u.push(y, x)
	}
}

func (u *turn) arith(op int) int {
	b := 0
	if op != api.ArithNeg {
		b = u.popWord()
	}
	x, has := arith.Do(op, u.popWord(), b)
	if !has {
		return fault(api.ClassArithFault)
	}
	u.push(numberOf(x))
	return null
}

func (u *turn) jump(i api.Ins) {
	if u.isTaken(i.Op) {
		u.at = i.A
	}
}

func (u *turn) isTaken(op int) bool {
	switch op {
	case api.InsIfZero:
		return u.popWord() == 0
	case api.InsIfLess:
		b, a := u.popWord(), u.popWord()
		return a < b
	case api.InsIfSame:
		return u.popWord() == u.popWord()
	case api.InsIfNull:
		return u.popWord() == null
	}
	return true
}

func (u *turn) talk(op int) {
	if op == api.InsPrint {
		u.out = append(u.out, u.popWord())
		return
	}
	input := 0
	if len(u.inputs) > 0 {
		input, u.inputs = u.inputs[0], u.inputs[1:]
	}
	u.push(numberOf(input))
}
