package model

import (
	"gneiss/api"
)

// stay makes the thread stand at the instruction still, for the sake of an object.
func (u *turn) stay(obj int) {
	u.at--
	u.thread.awaits = obj
}

func (u *turn) useMonitor(op int) int {
	obj := u.popWord()
	if obj == null {
		return fault(api.ClassNullFault)
	}
	if u.askMonitors(op, obj) != api.OK {
		return fault(api.ClassMonitorFault)
	}
	switch u.monitors.State(u.number) {
	case api.ThreadEntering:
		u.push(refTo(obj))
		u.stay(obj)
	case api.ThreadWaiting:
		u.stay(obj)
	}
	return null
}

// askMonitors is what layer 20 answers.
func (u *turn) askMonitors(op int, obj int) (code api.Errno) {
	switch op {
	case api.InsEnter:
		_, code = u.monitors.Enter(u.number, obj)
	case api.InsLeave:
		code = u.monitors.Leave(u.number, obj)
	case api.InsWait:
		code = u.monitors.Wait(u.number, obj)
	case api.InsNotify, api.InsNotifyAll:
		_, code = u.monitors.Notify(u.number, obj, op == api.InsNotifyAll)
	}
	return code
}

func (u *turn) start() int {
	obj := u.popWord()
	_, isStarted := u.threadOf(obj)
	switch {
	case obj == null:
		return fault(api.ClassNullFault)
	case isStarted:
		return fault(api.ClassMonitorFault)
	case len(u.threads) == u.most:
		return fault(api.ClassMemoryFault)
	}
	f, does := u.virtual(u.object(obj).class, api.Method{Name: "run"}, []value{refTo(obj)})
	if does {
		u.addThread(obj, api.ThreadReady, f)
	} else {
		u.addThread(obj, api.ThreadEnded)
	}
	return null
}

func (u *turn) join() int {
	obj := u.popWord()
	if obj == null {
		return fault(api.ClassNullFault)
	}
	if u.isUnderWay(obj) {
		u.push(refTo(obj))
		u.stay(obj)
		u.thread.state = api.ThreadJoining
	}
	return null
}
