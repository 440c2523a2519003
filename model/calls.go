package model

import (
	"gneiss/api"
	"gneiss/load"
)

func (u *turn) call(i api.Ins) int {
	called := u.methods[i.A][i.B]
	if i.Op == api.InsCallStatic {
		return u.begin(u.frameOf(i.A, i.B, u.popLast(len(called.Args))))
	}
	given := u.popLast(1 + len(called.Args))
	receiver := int(given[0].word)
	if receiver == null {
		return fault(api.ClassNullFault)
	}
	class := u.object(receiver).class
	if i.Op == api.InsCallFace && !load.Is(u.layouts, class, i.A) {
		return fault(api.ClassCastFault)
	}
	f, does := u.virtual(class, called, given)
	if !does {
		return null
	}
	return u.begin(f)
}

// begin makes the thread go on in a method that was called.
func (u *turn) begin(f *frame) int {
	if u.thread.depth() == api.MaxFrames {
		return fault(api.ClassMemoryFault)
	}
	u.thread.push(f)
	return null
}

func (u *turn) giveBack(op int) {
	var given []value
	if op != api.InsReturn {
		given = u.popLast(1)
	}
	u.thread.pop()
	caller, has := u.thread.top()
	if !has {
		u.end(u.number, api.ThreadEnded)
		return
	}
	caller.push(given...)
}

func (u *turn) thrown() int {
	obj := u.popWord()
	if obj == null {
		return fault(api.ClassNullFault)
	}
	return obj
}
