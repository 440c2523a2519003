package collect

import "gneiss/api"

// Weak is the number of a new CellWeak, whose word names ref without reaching it; it is a root of the thread.
func (h *Heap) Weak(thread int, ref int) (int, api.Errno) {
	if code := h.access(thread); code != api.OK {
		return 0, code
	}
	if _, code := h.cells.Cell(ref); code != api.OK {
		return 0, ofCollect(code)
	}
	weak, code := h.add(thread, api.CellWeak, api.ClassWeak, 1)
	if code == api.OK {
		h.cells.Put(thread, weak, 0, ref)
	}
	return weak, code
}

// Clear clears the CellWeak weak, in PhaseClear, if what its word names is unreached: the word is 0 from then on. It
// tells whether it did so. The steps are the collector's.
func (h *Heap) Clear(weak int) bool {
	if cell, _ := h.Cell(weak); cell.Kind != api.CellWeak {
		return false
	}
	ref, _ := h.cells.Load(h.tracer.agent, weak, 0)
	return h.IsUnreached(ref) && h.cells.Put(h.tracer.agent, weak, 0, 0) == api.OK
}

// IsUnreached tells, in PhaseClear, whether ref is a cell that goes when the collector goes on.
func (h *Heap) IsUnreached(ref int) bool {
	return h.Phase() == api.PhaseClear && h.tracer.isWhite(ref)
}

// Keep marks ref, as if a root named it, while it is not too late: in PhaseMark, and in PhaseClear, from which the
// collector goes back to PhaseMark, since what ref reaches must be marked as well.
func (h *Heap) Keep(ref int) {
	switch h.Phase() {
	case api.PhaseMark, api.PhaseClear:
		h.tracer.mark(ref)
		h.phase = api.PhaseMark
	}
}
