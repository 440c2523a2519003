package collect_test

import (
	"slices"
	"testing"

	"gneiss/api"
	"gneiss/collect"
)

// most is how many steps a cycle may take that begins now and is answered behind each step.
func (b *both) most() int {
	most := 64
	for _, ref := range b.h.Refs() {
		most += 24 + 8*b.held[ref].is.Size
	}
	for _, refs := range b.roots {
		most += 8 * len(refs)
	}
	return most
}

// wantCycle tells that a cycle ends in time, and that what was unreached is gone.
func (b *both) wantCycle() {
	b.t.Helper()
	most, reached := b.most(), b.reached()
	if steps := b.cycle(); steps > most {
		b.t.Fatalf("a cycle took %d steps; it may take %d", steps, most)
	}
	b.wantRefs(reached...)
	b.wantSame()
}

func TestP12_3NothingIsUnderWay(t *testing.T) {
	b := bothOf(t, 1024)
	ref := b.make(0, api.CellRefs, 3)
	b.pop(0)
	for range 50 {
		if b.step() {
			t.Fatal("a cycle is under way that nobody has begun")
		}
		b.answerAll()
	}
	b.wantRefs(ref)
	b.wantCycle()
	for range 50 {
		if b.step() {
			t.Fatal("a cycle that is over is under way")
		}
		b.answerAll()
	}
	b.wantRefs()
}

func TestP12_3CyclesOfAnEmptyHeap(t *testing.T) {
	b := bothOf(t, 1024)
	for range 5 {
		b.wantCycle()
	}
	b.push(0, 0)
	b.push(1, 0)
	b.wantCycle()
}

// The phases come one behind the other, and none comes again.
func TestP12_3Phases(t *testing.T) {
	b := bothOf(t, 1024)
	for range 4 {
		b.make(0, api.CellRefs, 4)
		b.make(1, api.CellObject, 4)
		b.pop(1)
		b.wantPhase(api.PhaseIdle)
		b.begin()
		last := b.h.Phase()
		for b.step() {
			b.answerAll()
			if now := b.h.Phase(); now < last || now > api.PhaseSweep {
				t.Fatalf("phase %d behind phase %d", now, last)
			}
			last = b.h.Phase()
		}
		b.wantPhase(api.PhaseIdle)
	}
}

// A second Begin is nothing: it neither begins anew nor asks anew.
func TestP12_3BeginWhileOneIsUnderWay(t *testing.T) {
	b := bothOf(t, 1024)
	keeps, dead := b.make(0, api.CellRefs, 4), b.make(1, api.CellInts, 4)
	b.pop(1)
	most := b.most()
	b.begin()
	steps := 1
	for ; b.step(); steps++ {
		b.begin()
		b.answerAll()
		b.begin()
	}
	if steps > most || b.h.Cycles() != 1 {
		t.Fatalf("%d steps, %d cycles", steps, b.h.Cycles())
	}
	b.wantRefs(keeps)
	b.wantNone(dead)
}

// A cycle waits for each thread, however long that takes; the threads go on meanwhile.
func TestP12_3WaitsForThreads(t *testing.T) {
	for late := range threads {
		b := bothOf(t, 2048)
		keeps, dead := b.make(late, api.CellRefs, 4), b.make(late, api.CellObject, 4)
		b.pop(late)
		b.begin()
		for i := range 300 {
			if !b.step() {
				t.Fatalf("thread %d was not waited for", late)
			}
			b.answer((late + 1) % threads)
			b.answer((late + 2) % threads)
			b.put(late, keeps, i%4, keeps*(i%2))
		}
		b.wantSame()
		b.answer(late)
		b.end()
		b.wantRefs(keeps)
		b.wantNone(dead)
	}
}

// What was answered in one cycle is asked again in the next, and what was answered ahead of it does not count.
func TestP12_3EachCycleAsks(t *testing.T) {
	b := bothOf(t, 1024)
	keeps := b.make(1, api.CellRefs, 1)
	for range 3 {
		b.answerAll()
		b.begin()
		for range 100 {
			if !b.step() {
				t.Fatal("no thread was waited for")
			}
		}
		b.end()
		b.wantRefs(keeps)
	}
}

func TestP12_3ManyRoots(t *testing.T) {
	b := bothOf(t, 16384)
	for thread := range threads {
		for range api.MaxRoots {
			if b.make(thread, api.CellObject, 3) == 0 {
				t.Fatal("no room")
			}
		}
	}
	b.begin()
	b.answerAll()
	b.end()
	b.wantSame()
	b.wantCycle()
}

// chain makes so many cells, each of which but the first names the one ahead of it; the last one is a root.
func (b *both) chain(thread, kind, n, count int) []int {
	b.t.Helper()
	var refs []int
	for i := range count {
		ref := b.make(thread, kind, n)
		if ref == 0 {
			b.t.Fatalf("no room for %d cells of %d words", count, n)
		}
		if i > 0 {
			b.put(thread, ref, i%n, refs[i-1])
			b.pop(thread)
			b.pop(thread)
			b.push(thread, ref)
		}
		refs = append(refs, ref)
	}
	return refs
}

func TestP12_3EndsInTime(t *testing.T) {
	for _, kind := range []int{api.CellObject, api.CellRefs} {
		for _, shape := range [][2]int{{1, 1}, {1, 900}, {2, 100}, {64, 50}, {30, 200}} {
			b := bothOf(t, api.MaxWords)
			refs := b.chain(0, kind, shape[0], shape[1])
			b.wantCycle()
			b.wantRefs(refs...)
			b.pop(0)
			b.wantCycle()
			b.wantRefs()
		}
	}
}

// Great arrays whose words all name one another; and many cells of no words.
func TestP12_3EndsInTimeOfManyWords(t *testing.T) {
	b := bothOf(t, api.MaxWords)
	for range 15 {
		b.make(0, api.CellRefs, api.MaxArray)
	}
	for _, ref := range b.h.Refs() {
		for i := range api.MaxArray {
			b.put(0, ref, i, b.roots[0][i%15])
		}
	}
	for len(b.roots[0]) > 1 {
		b.pop(0)
	}
	b.wantCycle()
	b.pop(0)
	b.wantCycle()
	b.wantRefs()
	for i := 0; b.make(1, []int{api.CellObject, api.CellInts, api.CellRefs}[i%3], 0) != 0; i++ {
		b.pop(1)
	}
	if got := len(b.h.Refs()); got != api.MaxWords/4/16 {
		t.Fatalf("%d cells of no words fit", got)
	}
	b.wantCycle()
	b.wantRefs()
}

// How many cells there once were does not count, nor how many were ever made.
func TestP12_3EndsInTimeBehindManyOthers(t *testing.T) {
	b := bothOf(t, api.MaxWords)
	for range 4 {
		for b.make(0, api.CellObject, 0) != 0 {
			b.pop(0)
		}
		b.wantCycle()
	}
	one := b.make(0, api.CellObject, 1)
	b.wantCycle()
	b.wantRefs(one)
}

// Ints are no refs, whatever they are.
func TestP12_3IntsReachNothing(t *testing.T) {
	b := bothOf(t, 1024)
	ints := b.make(0, api.CellInts, 3)
	dead := b.make(0, api.CellObject, 3)
	b.put(0, ints, 0, dead)
	b.pop(0)
	b.begin()
	b.step()
	b.put(1, ints, 0, 7)
	b.put(1, ints, 1, dead)
	b.end()
	b.wantRefs(ints)
}

func TestP12_3NewCellsStay(t *testing.T) {
	b := bothOf(t, 4096)
	b.make(0, api.CellRefs, 5)
	b.make(1, api.CellObject, 5)
	b.pop(0)
	b.begin()
	var made []int
	for b.step() {
		b.answerAll()
		made = append(made, b.make(2, []int{api.CellObject, api.CellInts, api.CellRefs}[len(made)%3], 2))
		b.pop(2)
	}
	b.wantRefs(slices.Concat(made, b.reached())...)
	b.wantCycle()
	for _, ref := range made {
		b.wantNone(ref)
	}
}

// wantRefuses tells that all calls answer that error, or nothing.
func wantRefuses(t *testing.T, h *collect.Heap, want, cell api.Errno) {
	t.Helper()
	for _, n := range []int{-1, 0, 1, 2, 65, 1001} {
		if ref, code := h.Make(n, n, n, n); ref != 0 || code != want {
			t.Errorf("Make(%d ..) = %d, %d; want 0, %d", n, ref, code, want)
		}
		if code := h.Push(n, n); code != want {
			t.Errorf("Push(%d ..) = %d; want %d", n, code, want)
		}
		if ref, code := h.Pop(n); ref != 0 || code != want {
			t.Errorf("Pop(%d) = %d, %d; want 0, %d", n, ref, code, want)
		}
		if v, code := h.Load(n, n, n); v != 0 || code != want {
			t.Errorf("Load(%d ..) = %d, %d; want 0, %d", n, v, code, want)
		}
		if code := h.Put(n, n, n, n); code != want {
			t.Errorf("Put(%d ..) = %d; want %d", n, code, want)
		}
		if code := h.Answer(n); code != want {
			t.Errorf("Answer(%d) = %d; want %d", n, code, want)
		}
		if c, code := h.Cell(n); c != (api.Cell{}) || code != cell {
			t.Errorf("Cell(%d) = %v, %d; want nothing, %d", n, c, code, cell)
		}
		if h.Steps(n) != 0 {
			t.Errorf("Steps(%d) = %d", n, h.Steps(n))
		}
	}
	if h.Phase() != api.PhaseIdle || h.Cycles() != 0 || len(h.Refs()) != 0 {
		t.Errorf("Phase() = %d, Cycles() = %d, Refs() = %v", h.Phase(), h.Cycles(), h.Refs())
	}
}

func TestR3Nil(t *testing.T) {
	wantRefuses(t, nil, api.ErrNil, api.ErrNil)
	var h *collect.Heap
	if under, code := h.Step(); under || code != api.ErrNil {
		t.Errorf("Step() = %v, %d", under, code)
	}
	if code := h.Begin(); code != api.ErrNil {
		t.Errorf("Begin() = %d", code)
	}
}

// TestR1NotMadeByNew: one that New did not make has no threads and no cells.
func TestR1NotMadeByNew(t *testing.T) {
	h := &collect.Heap{}
	wantRefuses(t, h, api.ErrCollectThread, api.ErrCollectRef)
	if under, code := h.Step(); under || code != api.OK {
		t.Errorf("Step() = %v, %d", under, code)
	}
	h.Begin()
	h.Step()
	wantRefuses(t, h, api.ErrCollectThread, api.ErrCollectRef)
}

func TestR4RefsAreTheCallersOwn(t *testing.T) {
	b := bothOf(t, 1024)
	refs := b.chain(0, api.CellRefs, 2, 4)
	b.begin()
	b.answerAll()
	first, second := b.h.Refs(), b.h.Refs()
	for i := range first {
		first[i] = -1
	}
	b.end()
	for i, ref := range refs {
		if second[i] != ref {
			t.Fatalf("%v shares memory with another answer", second)
		}
	}
	b.wantRefs(refs...)
}
