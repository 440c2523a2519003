package verify

import (
	"gneiss/api"
	"gneiss/code"
	"gneiss/fault"
	"gneiss/types"
)

// A walk goes through a method place by place, and throws the first fault; now is the state where it is.
type walk struct {
	p   api.Program
	ls  []api.Layout
	m   api.Method
	now state
}

func (w *walk) from(start state) {
	w.now = start
	for at, i := range w.m.Code {
		w.come(at)
		w.askHandlers(at)
		w.do(at, i)
	}
}

func (w *walk) come(at int) {
	isCome := at == 0 || !code.Ends(w.m.Code[at-1].Op)
	m, has := w.mapAt(at)
	switch {
	case has && isCome && !w.fits(m), !has && !isCome:
		fault.Throw(at, api.ErrVerifyMap)
	case has:
		w.now = newFrame(m.Locals, m.Stack)
	}
}

// askHandlers is for what is thrown at a place: the locals are then what they are now.
func (w *walk) askHandlers(at int) {
	for _, h := range w.m.Table {
		if at < h.From || at >= h.To {
			continue
		}
		if m, _ := w.mapAt(h.At); !types.All(w.ls, w.now.locals, m.Locals) {
			fault.Throw(at, api.ErrVerifyTable)
		}
	}
}

func (w *walk) do(at int, i api.Ins) {
	popped := w.pop(at, w.pops(i))
	if i.Op == api.InsReturn && w.m.Ret != api.TypeNone {
		fault.Throw(at, api.ErrVerifyType)
	}
	if i.Op == api.InsLoad && w.now.locals[i.A] == api.TypeNone {
		fault.Throw(at, api.ErrVerifyLocal)
	}
	w.now.push(w.pushes(i, popped))
	if len(w.now.stack) > w.m.Stack {
		fault.Throw(at, api.ErrVerifyStack)
	}
	if i.Op == api.InsStore {
		w.now.locals[i.A] = popped[0]
		w.askHandlers(at)
	}
	if code.Jumps(i.Op) {
		w.jump(at, i.A)
	}
}

func (w *walk) pop(at int, wants []int) []int {
	popped, has := w.now.pop(len(wants))
	if !has {
		fault.Throw(at, api.ErrVerifyStack)
	}
	for i, want := range wants {
		if !w.isRight(popped[i], want) {
			fault.Throw(at, api.ErrVerifyType)
		}
	}
	return popped
}

func (w *walk) jump(at int, target int) {
	m, has := w.mapAt(target)
	switch {
	case !has:
		fault.Throw(at, api.ErrVerifyTarget)
	case !w.fits(m):
		fault.Throw(at, api.ErrVerifyMap)
	}
}

func (w *walk) fits(m api.Map) bool {
	there := state{m.Locals, m.Stack}
	return w.now.fits(there, func(have, want []int) bool { return types.All(w.ls, have, want) })
}
