package refs

import (
	"iter"
	"slices"

	"gneiss/api"
)

// Cycle is a whole collection: the CellWeaks that it cleared, and the cells that it put into the queue, both rising.
// What is cleared and queued goes by what was reached ahead of the queueing; what goes away, by what is reached behind
// it.
func (h *Heap) Cycle() ([]int, []int, api.Errno) {
	if h == nil {
		return nil, nil, api.ErrNil
	}
	h.begin()
	h.mark(h.queue.All())
	cleared := h.clear()
	queued := h.takeFinals()
	h.queue.Add(queued...)
	h.mark(slices.Values(queued))
	h.sweep()
	return cleared, queued, api.OK
}

// begin begins a cycle, in which all threads have marked their roots.
func (h *Heap) begin() {
	h.cells.Begin()
	for thread := range h.threads {
		h.cells.Answer(thread)
	}
}

// mark goes on until these, and all that they and the marked ones reach, are marked.
func (h *Heap) mark(refs iter.Seq[int]) {
	for ref := range refs {
		h.cells.Keep(ref)
	}
	for h.cells.Phase() == api.PhaseMark {
		h.cells.Step()
	}
}

// clear clears the CellWeaks whose referents are unreached, and tells which they are, rising.
func (h *Heap) clear() []int {
	var cleared []int
	for _, weak := range h.cells.Refs() {
		if h.cells.Clear(weak) {
			cleared = append(cleared, weak)
		}
	}
	return cleared
}

// takeFinals is the finalizable cells that are unreached, rising; they are taken out of those that were never queued.
func (h *Heap) takeFinals() []int {
	var dead, left []int
	for _, ref := range h.finals {
		if h.cells.IsUnreached(ref) {
			dead = append(dead, ref)
		} else {
			left = append(left, ref)
		}
	}
	h.finals = left
	return dead
}

// sweep goes on until the cycle is over.
func (h *Heap) sweep() {
	for under := true; under; {
		under, _ = h.cells.Step()
	}
}
