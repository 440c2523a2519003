package model

import (
	"gneiss/api"
	"gneiss/load"
)

// make asks for room last: what may not be made is no matter of room.
func (u *turn) make(i api.Ins) int {
	var made func() int
	switch i.Op {
	case api.InsNew:
		made = func() int { return u.add(i.A, blanks(u.layouts[i.A].Fields)) }
	case api.InsMakeWeak:
		referent := u.popWord()
		if referent == null {
			return fault(api.ClassNullFault)
		}
		made = func() int { return u.addWeak(referent) }
	default:
		size := u.popWord()
		if size < 0 || size > api.MaxArray {
			return fault(api.ClassSizeFault)
		}
		made = func() int { return u.addArray(size, value{isRef: i.Op == api.InsNewRefs}) }
	}
	if u.isShort {
		return fault(api.ClassMemoryFault)
	}
	u.push(refTo(made()))
	return null
}

// access gets a word or puts one, which is popped ahead of what tells where it goes.
func (u *turn) access(isPut bool) func(word *value) {
	if !isPut {
		return func(word *value) { u.push(*word) }
	}
	put := u.pop()
	return func(word *value) { *word = put }
}

func (u *turn) useStatic(i api.Ins) {
	access := u.access(i.Op == api.InsPutStatic)
	access(&u.statics[i.A][i.B])
}

func (u *turn) useField(i api.Ins) int {
	access := u.access(i.Op == api.InsPutField)
	obj := u.popWord()
	if obj == null {
		return fault(api.ClassNullFault)
	}
	access(&u.object(obj).words[u.layouts[i.A].Offset+i.B])
	return null
}

func (u *turn) useElement(op int) int {
	access := u.access(op == api.InsPutInt || op == api.InsPutRef)
	i, obj := u.popWord(), u.popWord()
	if obj == null {
		return fault(api.ClassNullFault)
	}
	words := u.object(obj).words
	if i < 0 || i >= len(words) {
		return fault(api.ClassBoundsFault)
	}
	access(&words[i])
	return null
}

// look is length, or deref.
func (u *turn) look(op int) int {
	obj := u.popWord()
	if obj == null {
		return fault(api.ClassNullFault)
	}
	words := u.object(obj).words
	if op == api.InsLength {
		u.push(numberOf(len(words)))
	} else {
		u.push(words[0])
	}
	return null
}

// ask is is, or cast.
func (u *turn) ask(i api.Ins) int {
	obj := u.popWord()
	is := obj != null && load.Is(u.layouts, u.object(obj).class, i.A)
	switch {
	case i.Op == api.InsIs && is:
		u.push(numberOf(1))
	case i.Op == api.InsIs:
		u.push(numberOf(0))
	case is, obj == null:
		u.push(refTo(obj))
	default:
		return fault(api.ClassCastFault)
	}
	return null
}
