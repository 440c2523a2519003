package legal

import (
	"gneiss/model"
)

// A walk finds each object at most once, so that it ends at the number of objects, whatever names what.
type walk struct {
	found   []int  // in the row in which they were found
	isFound []bool // by object
}

// walked is the walk from a machine's roots to all that is reached.
func walked(m *model.Machine) *walk {
	w := &walk{isFound: make([]bool, m.Objects()+1)}
	named := m.Roots()
	w.find(named)
	for next := 0; next < len(w.found); next++ {
		named = m.AppendNamed(named[:0], w.found[next])
		w.find(named)
	}
	return w
}

// find adds those that were not found yet.
func (w *walk) find(named []int) {
	for _, obj := range named {
		if !w.isFound[obj] {
			w.isFound[obj] = true
			w.found = append(w.found, obj)
		}
	}
}
