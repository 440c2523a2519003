package collect

import "gneiss/api"

// Begin begins a cycle, if none is under way: each thread is asked to mark its roots.
func (h *Heap) Begin() api.Errno {
	switch {
	case h == nil:
		return api.ErrNil
	case h.phase != api.PhaseIdle:
		return api.OK
	}
	if code := h.asked.Ask(api.PhaseMark); code != api.OK {
		return code
	}
	h.tracer.begin()
	h.phase = api.PhaseMark
	return api.OK
}

// Step is one step of the collector, and tells whether a cycle is under way still.
func (h *Heap) Step() (bool, api.Errno) {
	if h == nil {
		return false, api.ErrNil
	}
	switch h.phase {
	case api.PhaseMark:
		h.stepMark()
	case api.PhaseClear:
		h.phase = api.PhaseSweep
	case api.PhaseSweep:
		h.stepSweep()
	}
	return h.phase != api.PhaseIdle, api.OK
}

// Answer marks the thread's roots, if the collector asks it to.
func (h *Heap) Answer(thread int) api.Errno {
	if code := h.access(thread); code != api.OK {
		return code
	}
	if _, asks, _ := h.asked.See(thread); !asks {
		return api.OK
	}
	for _, ref := range h.roots[thread].refs {
		h.tracer.mark(ref)
	}
	return h.asked.Answer(thread)
}

// Phase is how far the cycle is that is under way.
func (h *Heap) Phase() int {
	if h == nil {
		return api.PhaseIdle
	}
	return h.phase
}

// Cycles is how many cycles are over.
func (h *Heap) Cycles() int {
	if h == nil {
		return 0
	}
	return h.cycles
}

// stepMark looks at one thing that is marked. If there is none and all threads have answered, there is none to come:
// what is not marked by then is unreached, and goes unless it is kept ahead of the next step.
func (h *Heap) stepMark() {
	if !h.tracer.look() && h.asked.Done() {
		h.phase = api.PhaseClear
	}
}

// stepSweep comes to one cell; behind the last one the cycle is over.
func (h *Heap) stepSweep() {
	if !h.tracer.sweep() {
		h.phase = api.PhaseIdle
		h.cycles++
	}
}
