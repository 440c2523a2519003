package monitor_test

import (
	"gneiss/api"
)

// plain does what the chapter's words say with a row of thread by monitor, and a clock by which waits are ordered.
type plain struct {
	clock int
	state []int
	deep  []map[int]int // by thread: how deep it owns each monitor
	was   []map[int]int // by thread: how deep it owned each monitor that it waited for and has not entered since
	since []int         // by thread: when its wait began
	waits []int         // by thread: what it waits for
}

func newPlain(threads int) *plain {
	p := &plain{state: make([]int, threads), since: make([]int, threads), waits: make([]int, threads)}
	for range threads {
		p.deep = append(p.deep, map[int]int{})
		p.was = append(p.was, map[int]int{})
	}
	return p
}

func (p *plain) owner(obj int) (int, int) {
	for thread, deep := range p.deep {
		if deep[obj] > 0 {
			return thread, deep[obj]
		}
	}
	return -1, 0
}

func (p *plain) stateOf(thread int) int {
	if thread < 0 || thread >= len(p.state) {
		return api.ThreadReady
	}
	return p.state[thread]
}

func (p *plain) refused(thread int) bool {
	return thread < 0 || thread >= len(p.state) || p.state[thread] == api.ThreadWaiting
}

func (p *plain) refusedOwner(thread, obj int) api.Errno {
	if p.refused(thread) {
		return api.ErrMonitorThread
	}
	if p.deep[thread][obj] == 0 {
		return api.ErrMonitorOwner
	}
	return api.OK
}

func (p *plain) Enter(thread, obj int) (bool, api.Errno) {
	if p.refused(thread) {
		return false, api.ErrMonitorThread
	}
	if p.deep[thread][obj] == 1000 {
		return false, api.ErrMonitorDeep
	}
	if owner, _ := p.owner(obj); owner != -1 && owner != thread {
		p.state[thread] = api.ThreadEntering
		return false, api.OK
	}
	p.deep[thread][obj]++
	if p.was[thread][obj] > 0 {
		p.deep[thread][obj] = p.was[thread][obj]
		p.was[thread][obj] = 0
	}
	p.state[thread] = api.ThreadReady
	return true, api.OK
}

func (p *plain) Leave(thread, obj int) api.Errno {
	code := p.refusedOwner(thread, obj)
	if code == api.OK {
		p.deep[thread][obj]--
	}
	return code
}

func (p *plain) Wait(thread, obj int) api.Errno {
	code := p.refusedOwner(thread, obj)
	if code == api.OK {
		p.was[thread][obj] = p.deep[thread][obj]
		p.deep[thread][obj] = 0
		p.clock++
		p.since[thread], p.waits[thread], p.state[thread] = p.clock, obj, api.ThreadWaiting
	}
	return code
}

// longest is the thread that has waited longest for the monitor; -1, if none does.
func (p *plain) longest(obj int) int {
	found := -1
	for thread, state := range p.state {
		if state == api.ThreadWaiting && p.waits[thread] == obj && (found < 0 || p.since[thread] < p.since[found]) {
			found = thread
		}
	}
	return found
}

func (p *plain) Notify(thread, obj int, all bool) (int, api.Errno) {
	if code := p.refusedOwner(thread, obj); code != api.OK {
		return 0, code
	}
	count := 0
	for next := p.longest(obj); next >= 0 && (all || count == 0); next = p.longest(obj) {
		p.state[next] = api.ThreadEntering
		count++
	}
	return count, api.OK
}

func (p *plain) LeaveAll(thread int) api.Errno {
	if p.refused(thread) {
		return api.ErrMonitorThread
	}
	p.deep[thread] = map[int]int{}
	return api.OK
}

// Kinds of calls.
const (
	callEnter = iota
	callLeave
	callLeaveAll
	callWait
	callNotify
	callNotifyAll
	callKinds
)

// call is one call, and answer what it answers (how many: of Enter's true 1).
type call struct {
	kind   int
	thread int
	obj    int
}

type answer struct {
	count int
	code  api.Errno
}

func counted(is bool) int {
	if is {
		return 1
	}
	return 0
}

// monitors is a table, or the plain account of one.
type monitors interface {
	Enter(thread int, obj int) (bool, api.Errno)
	Leave(thread int, obj int) api.Errno
	LeaveAll(thread int) api.Errno
	Wait(thread int, obj int) api.Errno
	Notify(thread int, obj int, all bool) (int, api.Errno)
}

func (c call) of(m monitors) answer {
	switch c.kind {
	case callEnter:
		is, code := m.Enter(c.thread, c.obj)
		return answer{counted(is), code}
	case callLeave:
		return answer{0, m.Leave(c.thread, c.obj)}
	case callLeaveAll:
		return answer{0, m.LeaveAll(c.thread)}
	case callWait:
		return answer{0, m.Wait(c.thread, c.obj)}
	}
	count, code := m.Notify(c.thread, c.obj, c.kind == callNotifyAll)
	return answer{count, code}
}
