package model

import (
	"gneiss/api"
)

// May tells whether a thread may step, and whether its step would make something.
func (m *Machine) May(thread int) (bool, bool) {
	if m == nil || thread < 0 || thread >= len(m.threads) {
		return false, false
	}
	t := m.threads[thread]
	switch m.state(thread) {
	case api.ThreadReady:
		f, _ := t.top()
		return true, makes(m.next(f).Op)
	case api.ThreadEntering:
		owner, deep := m.monitors.Owner(t.awaits)
		return deep == 0 || owner == thread, false
	case api.ThreadJoining:
		return !m.isUnderWay(t.awaits), false
	case api.ThreadIdle:
		_, has := m.queued.First()
		return has, false
	}
	return false, false
}

// Step makes a thread do one instruction; fail is that there is no room for what it makes.
func (m *Machine) Step(thread int, fail bool) api.Errno {
	may, makes := m.May(thread)
	switch {
	case m == nil:
		return api.ErrNil
	case !may:
		return api.ErrModelThread
	case fail && !makes:
		return api.ErrModelForm
	}
	m.step(thread, fail)
	return api.OK
}

// makes tells whether an instruction makes an object.
func makes(op int) bool {
	switch op {
	case api.InsNew, api.InsNewInts, api.InsNewRefs, api.InsMakeWeak:
		return true
	}
	return false
}

func (m *Machine) step(number int, fail bool) {
	t := m.threads[number]
	f, has := t.top()
	switch {
	case !has:
		m.finalizeNext(t)
	case m.comesFromWait(number, f):
		m.monitors.Enter(number, t.awaits)
		f.at++
	default:
		m.doNext(&turn{Machine: m, thread: t, frame: f, number: number, isShort: fail})
	}
}

// finalizeNext makes the finalizer, which is idle, stand in what the first of its queue does last.
func (m *Machine) finalizeNext(t *thread) {
	obj, _ := m.queued.First()
	m.queued.Drop()
	f, _ := m.virtual(m.object(obj).class, api.Method{Name: "finalize"}, []value{refTo(obj)})
	t.push(f)
	t.state = api.ThreadReady
}

func (m *Machine) comesFromWait(number int, f *frame) bool {
	return m.state(number) == api.ThreadEntering && m.next(f).Op == api.InsWait
}

// doNext steps over the instruction ahead of doing it, so that what goes on elsewhere, or stays, needs only say so.
func (m *Machine) doNext(u *turn) {
	u.thread.state = api.ThreadReady
	i := m.next(u.frame)
	u.at++
	if obj := u.do(i); obj != null {
		m.throw(u.number, obj)
	}
}

// throw gives what is thrown to the first handler that takes it, from the thread's top frame down.
func (m *Machine) throw(number int, obj int) {
	t := m.threads[number]
	for f, has := t.top(); has; f, has = t.top() {
		if h, is := m.handler(f, m.object(obj).class); is {
			f.empty()
			f.push(refTo(obj))
			f.at = h.At
			return
		}
		t.pop()
	}
	m.end(number, api.ThreadFailed)
}

// end is for a thread that has no frame any more; the finalizer is idle then.
func (m *Machine) end(number int, state int) {
	if number == finalizer {
		state = api.ThreadIdle
	}
	m.threads[number].state = state
	m.monitors.LeaveAll(number)
}
