package collect

import (
	"slices"

	"gneiss/api"
	"gneiss/heap"
	"gneiss/mark"
)

// tracer finds out which cells are reached, and frees the others. It goes by the row of cells that are there as it
// begins, and colours their places in it: a cell that is made later has none, so it is neither looked at nor freed, as
// if it were black at once. Nor need it be looked at: what it names is in the row and reached, or made later as well.
type tracer struct {
	cells   *heap.Heap
	agent   int // the one that looks at cells and frees them
	row     []int
	colours *mark.Work // of the row's places
	looked  looked
	swept   int // how many places of the row the sweep is through with
}

// looked is how far the look at a cell has come.
type looked struct {
	ref   int
	next  int // the first word that was not looked at yet
	words int // how many there are to look at
}

// tracerOf is for cells of which there are never more than most at one time.
func tracerOf(cells *heap.Heap, agent int, most int) tracer {
	colours, _ := mark.New(most)
	return tracer{cells: cells, agent: agent, colours: colours}
}

// begin makes all cells that are there white.
func (t *tracer) begin() {
	t.row = t.cells.Refs()
	t.colours.Reset()
	t.swept = 0
}

// mark makes ref grey, if it is a white cell.
func (t *tracer) mark(ref int) {
	if place, has := slices.BinarySearch(t.row, ref); has {
		t.colours.Grey(place)
	}
}

// isWhite tells whether ref is a cell of the row that is not marked.
func (t *tracer) isWhite(ref int) bool {
	place, has := slices.BinarySearch(t.row, ref)
	return has && t.isWhiteAt(place)
}

func (t *tracer) isWhiteAt(place int) bool {
	colour, _ := t.colours.Colour(place)
	return colour == api.ColourWhite
}

// markWord marks what the word i of the cell ref names, by steps of that agent.
func (t *tracer) markWord(agent int, ref int, i int) {
	if i >= t.refsIn(ref) {
		return
	}
	if named, code := t.cells.Load(agent, ref, i); code == api.OK {
		t.mark(named)
	}
}

// look looks at one word of a marked cell, or takes up the next grey one, and tells whether there was anything to do.
func (t *tracer) look() bool {
	if t.looked.next < t.looked.words {
		t.markWord(t.agent, t.looked.ref, t.looked.next)
		t.looked.next++
		return true
	}
	place, has := t.colours.Next()
	if has {
		ref := t.row[place]
		t.looked = looked{ref: ref, words: t.refsIn(ref)}
	}
	return has
}

// sweep frees the next cell of the row, if it is white, and tells whether there are more.
func (t *tracer) sweep() bool {
	if t.swept < len(t.row) {
		if t.isWhiteAt(t.swept) {
			t.cells.Free(t.agent, t.row[t.swept])
		}
		t.swept++
	}
	return t.swept < len(t.row)
}

// refsIn is how many words of the cell ref are refs; they are its first ones.
func (t *tracer) refsIn(ref int) int {
	cell, _ := t.cells.Cell(ref)
	if cell.Kind == api.CellObject || cell.Kind == api.CellRefs {
		return cell.Size
	}
	return 0
}
