package heap_test

import (
	"slices"
	"testing"

	"gneiss/api"
	"gneiss/heap"
)

// fill makes cells of the sizes by turns, as long as there is room for the next, and then one that takes all the room
// that is left, if there is such a one.
func (b *both) fill(kind int, sizes ...int) {
	b.t.Helper()
	for i := 0; ; i++ {
		ref := b.make(i%agents, kind, sizes[i%len(sizes)])
		if ref == 0 {
			break
		}
		if n := b.held[ref].is.Size; n > 0 {
			b.put(0, ref, 0, 10*ref)
			b.put(0, ref, n-1, 10*ref+1)
		}
	}
	if n := b.room - 16; isSize(kind, n) {
		if isSize(kind, n+1) {
			b.make(1, kind, n+1)
		}
		if b.make(1, kind, n) == 0 || b.room != 0 {
			b.t.Fatalf("room was %d, and is %d", n+16, b.room)
		}
	}
}

// freeSome frees each cell of those there whose place from the first on is one of the places modulo of.
func (b *both) freeSome(of int, places ...int) {
	b.t.Helper()
	for i, ref := range b.refs() {
		if slices.Contains(places, i%of) {
			b.free(i%agents, ref)
		}
	}
}

func TestP9_2FullOfOneKind(t *testing.T) {
	for _, words := range []int{512, 513, 518, 777, 1024, 4099} {
		for _, kind := range kinds {
			for _, n := range []int{0, 1, 2, 7, 8, 9, 15, 16, 23, 30, 37, 44, 51, 55, 58, 61, 64, 65, 100, 500, 1000} {
				if !isSize(kind, n) {
					continue
				}
				b := bothOf(t, words)
				b.fill(kind, n)
				b.wantSame()
				for of := 2; of < 5; of++ {
					b.freeSome(of, 1)
					b.fill(kind, n)
					b.wantSame()
				}
			}
		}
	}
}

// In the least heap each row of objects fits whose charges do: the fragments are scarcest there.
func TestP9_2EachMixtureOfObjectsInTheLeastHeap(t *testing.T) {
	for first := range maxFields + 1 {
		for second := range maxFields + 1 {
			b := bothOf(t, 512)
			b.make(0, api.CellObject, first)
			b.make(1, api.CellObject, second)
			for n := min(maxFields, b.room-16); n >= 0; n = min(maxFields, b.room-16) {
				if b.make(2, api.CellObject, n) == 0 {
					t.Fatalf("%d and %d fields, then %d", first, second, n)
				}
			}
			b.wantKnown()
		}
	}
}

// What was objects can be arrays, and what was arrays objects.
func TestP9_2ObjectsAndArraysByTurns(t *testing.T) {
	for _, words := range []int{512, 515, 900, 2048, 10001} {
		b := bothOf(t, words)
		for round := range 12 {
			b.fill(kinds[round%3], 58, 0, 37, 64, round)
			b.wantSame()
			if round%4 == 3 {
				b.freeSome(1, 0)
			} else {
				b.freeSome(3, 0, round%3)
			}
			b.wantSame()
		}
		b.freeSome(1, 0)
		if b.h.Room() != b.whole {
			t.Fatalf("all are gone: Room() = %d; want %d", b.h.Room(), b.whole)
		}
	}
}

// The words of arrays that are gone can be had again however small the pieces are that they left.
func TestP9_2ArraysMoveTogether(t *testing.T) {
	for _, words := range []int{512, 1111, 5000, 20000} {
		b := bothOf(t, words)
		for round := range 6 {
			b.fill(api.CellInts, round, 3, 20)
			b.freeSome(2, round%2)
			n := min(b.room-16, api.MaxArray)
			ref := b.make(0, api.CellRefs, n)
			b.write(1, ref, -5)
			b.wantSame()
			b.free(2, ref)
			b.wantSame()
			b.freeSome(3, 1)
		}
	}
}

func TestP9_2WordsAreZeroAtFirstWhateverLayThere(t *testing.T) {
	b := bothOf(t, 1500)
	for round := range 30 {
		kind := kinds[round%len(kinds)]
		for n := range 40 {
			if isSize(kind, n) && n+16 <= b.room {
				ref := b.make(0, kind, n)
				for i := range n {
					b.load(1, ref, i)
				}
				b.write(2, ref, -1)
			}
		}
		b.wantSame()
		b.freeSome(2+round%2, 0, 1)
	}
}

func TestP9_2TheGreatestHeap(t *testing.T) {
	for _, kind := range kinds {
		for _, sizes := range [][]int{{58}, {64, 61, 58, 55}, {1}, {0, 1, 37}, {1000}, {1000, 3}} {
			if !isSize(kind, slices.Max(sizes)) || !isSize(kind, slices.Min(sizes)) {
				continue
			}
			b := bothOf(t, api.MaxWords)
			b.fill(kind, sizes...)
			b.freeSome(3, 1, 2)
			b.fill(kind, sizes...)
			b.wantKnown()
			for _, ref := range b.refs() {
				if n := b.held[ref].is.Size; n > 0 {
					b.load(0, ref, 0)
					b.load(1, ref, n-1)
				}
			}
		}
	}
}

// A number stands for one cell, even when that is gone.
func TestP9_2NoNumberIsGivenTwice(t *testing.T) {
	b := bothOf(t, 600)
	last := 0
	for i := range 300 {
		ref := b.make(i%agents, kinds[i%len(kinds)], 1)
		if ref <= last {
			t.Fatalf("%d was made behind %d", ref, last)
		}
		b.free(0, b.refs()[i%len(b.refs())])
		last = ref
		if i%3 == 0 {
			last = b.make(0, api.CellInts, 0)
			b.free(1, last)
		}
	}
	b.wantSame()
}

// Check refuses what Make refuses, but for the room.
func TestCheck(t *testing.T) {
	b := bothOf(t, 512)
	for _, kind := range append(slices.Clone(noKinds), kinds...) {
		for _, class := range []int{-1, 0, 11} {
			for _, n := range []int{-1, 0, 1, 2, 64, 65, 90, 1000, 1001} {
				want := b.h.Check(kind, class, n)
				ref, code := b.h.Make(0, kind, class, n)
				if code != want && (code != api.ErrHeapFull || want != api.OK) || want == api.OK && !isSize(kind, n) {
					t.Errorf("Check(%d, %d, %d) = %d; Make = %d", kind, class, n, want, code)
				}
				b.h.Free(0, ref)
			}
		}
	}
	var none *heap.Heap
	if code := none.Check(api.CellInts, 0, 1); code != api.ErrNil {
		t.Errorf("Check of nil = %d", code)
	}
}

// A heap that is full but for one array is made full again and again.
func TestSizesOneArrayThatComesAndGoes(t *testing.T) {
	b := bothOf(t, api.MaxWords)
	b.fill(api.CellInts, 1000)
	for range 300 {
		b.free(0, b.refs()[3])
		b.make(1, api.CellRefs, b.room-16)
	}
	b.wantSame()
}

// anyCall does one thing that a fixed row of numbers says; few of them are wrong.
func (b *both) anyCall(r *row, longest int, grows bool) {
	b.t.Helper()
	agent, ref, refs := r.next(agents), 0, b.refs()
	if len(refs) > 0 {
		ref = refs[r.next(len(refs))]
	}
	switch what := r.next(10); {
	case what < 4 && grows || what < 1:
		b.makeAny(agent, r, longest)
	case what < 3 && ref > 0:
		b.free(agent, ref)
	case ref == 0:
		b.wantNone(r.next(50))
	default:
		n := b.held[ref].is.Size
		i := r.next(n+2) - 1
		if i < 0 || i >= n {
			b.wantNoWord(agent, ref, i, api.ErrHeapBounds)
			return
		}
		b.put(agent, ref, i, r.next(2000)-1000)
	}
}

func (b *both) makeAny(agent int, r *row, longest int) {
	b.t.Helper()
	kind, n := kinds[r.next(len(kinds))], r.next(longest+1)
	switch {
	case kind == api.CellWeak:
		n = 1
	case kind == api.CellObject:
		n %= maxFields + 1
	case r.next(8) == 0 && b.room >= 16:
		n = min(b.room-16, api.MaxArray)
	}
	b.make(agent, kind, n)
}

func TestP9_2LongWalks(t *testing.T) {
	r := row(5)
	for round := range 60 {
		b := bothOf(t, 512+r.next(100*(1+round)))
		longest := 1 + r.next(150)
		for i := range 400 {
			b.anyCall(&r, longest, i/100%2 == 0)
			b.wantKnown()
			if i%10 == 0 {
				b.wantSame()
			}
		}
		b.wantSame()
	}
}

func TestP9_2ALongWalkInTheGreatestHeap(t *testing.T) {
	r := row(9)
	b := bothOf(t, api.MaxWords)
	for i := range 20000 {
		b.anyCall(&r, 300, i/2000%2 == 0)
		if i%1000 == 0 {
			b.wantSame()
		}
	}
	b.wantSame()
}

// wantRefuses tells that all calls answer that error, or nothing.
func wantRefuses(t *testing.T, h *heap.Heap, want api.Errno) {
	t.Helper()
	for _, n := range []int{-1, 0, 1, 2, 65, 1001} {
		if ref, code := h.Make(n, n, n, n); ref != 0 || code != want {
			t.Errorf("Make(%d ..) = %d, %d; want 0, %d", n, ref, code, want)
		}
		if v, code := h.Load(n, n, n); v != 0 || code != want {
			t.Errorf("Load(%d ..) = %d, %d; want 0, %d", n, v, code, want)
		}
		if code := h.Put(n, n, n, n); code != want {
			t.Errorf("Put(%d ..) = %d; want %d", n, code, want)
		}
		if c, code := h.Cell(n); c != (api.Cell{}) || code != want {
			t.Errorf("Cell(%d) = %v, %d; want nothing, %d", n, c, code, want)
		}
		if code := h.Free(n, n); code != want {
			t.Errorf("Free(%d ..) = %d; want %d", n, code, want)
		}
		if steps := h.Steps(n); steps != 0 {
			t.Errorf("Steps(%d) = %d", n, steps)
		}
	}
	if refs := h.Refs(); len(refs) != 0 || h.Room() != 0 {
		t.Errorf("Refs() = %v, Room() = %d", refs, h.Room())
	}
}

func TestR3Nil(t *testing.T) {
	wantRefuses(t, nil, api.ErrNil)
}

// TestR1NotMadeByNew: one that New did not make has no agent and no cell.
func TestR1NotMadeByNew(t *testing.T) {
	wantRefuses(t, &heap.Heap{}, api.ErrHeapRef)
}

func TestR4RefsAreTheCallersOwn(t *testing.T) {
	b := bothOf(t, 1000)
	for _, kind := range kinds {
		b.make(0, kind, 1)
	}
	first, second := b.h.Refs(), b.h.Refs()
	for i := range first {
		first[i] = -1
	}
	if !slices.Equal(second, b.refs()) {
		t.Errorf("Refs() = %v; want %v", second, b.refs())
	}
	b.wantSame()
}

// Two heaps that are handed the same answer the same.
func TestR5NothingElseCounts(t *testing.T) {
	r, again := row(21), row(21)
	first, second := bothOf(t, 3000), bothOf(t, 3000)
	for i := range 600 {
		first.anyCall(&r, 60, i%200 < 100)
		second.anyCall(&again, 60, i%200 < 100)
		if !slices.Equal(first.h.Refs(), second.h.Refs()) || !slices.Equal(first.steps(), second.steps()) {
			t.Fatalf("call %d: %v, %v; %v, %v", i, first.h.Refs(), second.h.Refs(), first.steps(), second.steps())
		}
	}
}
