package model

import (
	"slices"

	"gneiss/api"
)

// Roots is the objects that a machine holds whatever its objects' words name: its faults' own, and what its threads, its
// statics and the finalizer's queue name. Some may stand in it more than once.
func (m *Machine) Roots() []int {
	if m == nil {
		return nil
	}
	var roots []int
	for class := api.ClassNullFault; class <= api.ClassMemoryFault; class++ {
		if m.hasObject(fault(class)) {
			roots = append(roots, fault(class))
		}
	}
	for number, t := range m.threads {
		if t.isUnderWay() {
			roots = t.appendHeld(roots, m.state(number))
		}
	}
	for _, words := range m.statics {
		roots = appendNamed(roots, words)
	}
	return slices.AppendSeq(roots, m.queued.All())
}

// AppendNamed is all with the objects behind it that an object's words name; a weak reference doesn't hold its referent,
// so it names none.
func (m *Machine) AppendNamed(all []int, obj int) []int {
	if m == nil || !m.hasObject(obj) || !m.object(obj).holds {
		return all
	}
	return appendNamed(all, m.object(obj).words)
}

// HasWeak tells whether a weak reference to an object is not cleared.
func (m *Machine) HasWeak(obj int) bool {
	return m != nil && m.hasObject(obj) && len(m.object(obj).weaks) > 0
}

// IsFinal tells whether an object is of a Final class, or of one below one.
func (m *Machine) IsFinal(obj int) bool {
	return m != nil && m.hasObject(obj) && m.isFinal[m.object(obj).class]
}

// WasQueued tells whether an object was ever put into the finalizer's queue.
func (m *Machine) WasQueued(obj int) bool {
	return m != nil && m.hasObject(obj) && m.object(obj).isQueued
}

// appendHeld is all with the objects behind it that a thread in that state holds.
func (t *thread) appendHeld(all []int, state int) []int {
	all = append(all, t.obj)
	for _, f := range t.items {
		all = appendNamed(all, f.locals)
		all = appendNamed(all, f.items)
	}
	switch state {
	case api.ThreadEntering, api.ThreadWaiting, api.ThreadJoining:
		// Its stack need not hold what it waits for any more.
		all = append(all, t.awaits)
	}
	return all
}

// appendNamed is all with the objects behind it that values name.
func appendNamed(all []int, values []value) []int {
	for _, v := range values {
		if v.isRef && v.word != null {
			all = append(all, int(v.word))
		}
	}
	return all
}
