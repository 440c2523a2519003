package refs_test

import (
	"math"
	"slices"
	"testing"

	"gneiss/api"
	"gneiss/refs"
)

const threads = 3

var (
	noThreads = []int{math.MinInt, -1 << 32, -1, threads, api.MaxThreads, 1 << 32, math.MaxInt}
	noCells   = []int{math.MinInt, -2, -1, 0, 999, 1 << 32, 1<<32 + 1, math.MaxInt}
)

// held is what a cell must be.
type held struct {
	kind     int
	words    []int // a CellWeak has none here
	referent int   // of a CellWeak
	final    bool  // and never queued
}

// both is a heap, and what it must hold.
type both struct {
	t     *testing.T
	h     *refs.Heap
	words int
	held  map[int]*held // those that are there
	roots [threads][]int
	queue []int
}

func bothOf(t *testing.T, words int) *both {
	t.Helper()
	h, code := refs.New(words, threads)
	if h == nil || code != api.OK {
		t.Fatalf("New(%d, %d) = %v, %d", words, threads, h, code)
	}
	b := &both{t: t, h: h, words: words, held: map[int]*held{}}
	b.wantSame()
	return b
}

// refs is the cells that must be there, rising.
func (b *both) refs() []int {
	var all []int
	for ref := range b.held {
		all = append(all, ref)
	}
	slices.Sort(all)
	return all
}

// refusal is what must be answered to a thread that makes a cell of n words.
func (b *both) refusal(thread, n int) api.Errno {
	charged := n + 16
	for _, c := range b.held {
		charged += 16 + len(c.words)
		if c.kind == api.CellWeak {
			charged++
		}
	}
	switch {
	case len(b.roots[thread]) == api.MaxRoots:
		return api.ErrRefsRoots
	case 4*charged > b.words:
		return api.ErrRefsFull
	}
	return api.OK
}

// add takes what a Make or Weak answered, if it must be answered.
func (b *both) add(thread, ref int, code, want api.Errno, is *held) int {
	b.t.Helper()
	if code != want || (ref == 0) != (want != api.OK) || b.held[ref] != nil {
		b.t.Fatalf("thread %d makes %v: %d, %d; want %d", thread, *is, ref, code, want)
	}
	if ref != 0 {
		b.held[ref] = is
		b.roots[thread] = append(b.roots[thread], ref)
	}
	return ref
}

// make makes a cell, if there is room for it and its root; it is 0 if not.
func (b *both) make(thread, kind, n int, final bool) int {
	b.t.Helper()
	want := b.refusal(thread, n)
	ref, code := b.h.Make(thread, kind, 7, n, final)
	return b.add(thread, ref, code, want, &held{kind: kind, words: make([]int, n), final: final})
}

// weak makes a CellWeak, likewise.
func (b *both) weak(thread, referent int) int {
	b.t.Helper()
	want := b.refusal(thread, 1)
	ref, code := b.h.Weak(thread, referent)
	return b.add(thread, ref, code, want, &held{kind: api.CellWeak, referent: referent})
}

func (b *both) push(thread, ref int) {
	b.t.Helper()
	want := api.OK
	if len(b.roots[thread]) == api.MaxRoots {
		want = api.ErrRefsRoots
	}
	if code := b.h.Push(thread, ref); code != want {
		b.t.Fatalf("Push(%d, %d) = %d; want %d", thread, ref, code, want)
	}
	if want == api.OK {
		b.roots[thread] = append(b.roots[thread], ref)
	}
}

func (b *both) pop(thread int) {
	b.t.Helper()
	want, code := 0, api.ErrRefsRoots
	if last := len(b.roots[thread]) - 1; last >= 0 {
		want, code = b.roots[thread][last], api.OK
		b.roots[thread] = b.roots[thread][:last]
	}
	if ref, got := b.h.Pop(thread); ref != want || got != code {
		b.t.Fatalf("Pop(%d) = %d, %d; want %d, %d", thread, ref, got, want, code)
	}
}

// popAll pops until the thread has no roots.
func (b *both) popAll(thread int) {
	b.t.Helper()
	for len(b.roots[thread]) > 0 {
		b.pop(thread)
	}
}

func (b *both) put(thread, ref, i, v int) {
	b.t.Helper()
	if code := b.h.Put(thread, ref, i, v); code != api.OK {
		b.t.Fatalf("Put(%d, %d, %d, %d) = %d", thread, ref, i, v, code)
	}
	b.held[ref].words[i] = v
}

func (b *both) wantDeref(thread, weak, want int) {
	b.t.Helper()
	if ref, code := b.h.Deref(thread, weak); ref != want || code != api.OK {
		b.t.Fatalf("Deref(%d, %d) = %d, %d; want %d, OK", thread, weak, ref, code, want)
	}
}

func (b *both) wantNoDeref(thread, weak int) {
	b.t.Helper()
	if ref, code := b.h.Deref(thread, weak); ref != 0 || code != api.ErrRefsRef {
		b.t.Fatalf("Deref(%d, %d) = %d, %d; want 0, ErrRefsRef", thread, weak, ref, code)
	}
}

func (b *both) wantNoWeak(thread, ref int, want api.Errno) {
	b.t.Helper()
	if weak, code := b.h.Weak(thread, ref); weak != 0 || code != want {
		b.t.Fatalf("Weak(%d, %d) = %d, %d; want 0, %d", thread, ref, weak, code, want)
	}
}

func (b *both) wantNoMake(thread, kind, class, n int, want api.Errno) {
	b.t.Helper()
	for _, final := range []bool{false, true} {
		if ref, code := b.h.Make(thread, kind, class, n, final); ref != 0 || code != want {
			b.t.Fatalf("Make(%d, %d, %d, %d, %v) = %d, %d; want 0, %d", thread, kind, class, n, final, ref, code, want)
		}
	}
}

func (b *both) wantNoWord(thread, ref, i int, want api.Errno) {
	b.t.Helper()
	if v, code := b.h.Load(thread, ref, i); v != 0 || code != want {
		b.t.Fatalf("Load(%d, %d, %d) = %d, %d; want 0, %d", thread, ref, i, v, code, want)
	}
	if code := b.h.Put(thread, ref, i, 99); code != want {
		b.t.Fatalf("Put(%d, %d, %d, 99) = %d; want %d", thread, ref, i, code, want)
	}
}

func (b *both) wantRefs(want ...int) {
	b.t.Helper()
	slices.Sort(want)
	if got := b.h.Refs(); !slices.Equal(got, want) {
		b.t.Fatalf("Refs() = %v; want %v", got, want)
	}
}

// wantSame tells that all is there that must be, and nothing else.
func (b *both) wantSame() {
	b.t.Helper()
	b.wantRefs(b.refs()...)
	for ref, c := range b.held {
		if c.kind == api.CellWeak {
			b.wantDeref(ref%threads, ref, c.referent)
			continue
		}
		for i, want := range c.words {
			if v, code := b.h.Load((ref+i)%threads, ref, i); v != want || code != api.OK {
				b.t.Fatalf("Load(%d, %d, %d) = %d, %d; want %d, OK", (ref+i)%threads, ref, i, v, code, want)
			}
		}
	}
}

func TestP13_1New(t *testing.T) {
	for _, words := range []int{1024, 1025, 4096, api.MaxWords} {
		for _, threads := range []int{1, 2, api.MaxThreads} {
			h, code := refs.New(words, threads)
			if h == nil || code != api.OK || len(h.Refs()) != 0 {
				t.Fatalf("New(%d, %d) = %v, %d", words, threads, h, code)
			}
			if code := h.Push(threads-1, 0); code != api.OK {
				t.Errorf("thread %d of %d: %d", threads-1, threads, code)
			}
			if code := h.Push(threads, 0); code != api.ErrRefsRef {
				t.Errorf("thread %d of %d: %d", threads, threads, code)
			}
		}
	}
	for _, c := range [][2]int{{1023, 1}, {api.MaxWords + 1, 1}, {0, 1}, {-1, 1}, {math.MinInt, 1}, {math.MaxInt, 1},
		{1024, 0}, {1024, -1}, {1024, api.MaxThreads + 1}, {1024, math.MaxInt}, {1024, math.MinInt}, {0, 0}} {
		if h, code := refs.New(c[0], c[1]); h != nil || code != api.ErrRefsSize {
			t.Errorf("New(%d, %d) = %v, %d; want nil, ErrRefsSize", c[0], c[1], h, code)
		}
	}
}

func TestP13_1MakeLoadPut(t *testing.T) {
	b := bothOf(t, api.MaxWords)
	for _, c := range [][2]int{{api.CellObject, 0}, {api.CellObject, 1}, {api.CellObject, 64}, {api.CellInts, 0},
		{api.CellInts, api.MaxArray}, {api.CellRefs, 0}, {api.CellRefs, api.MaxArray}} {
		for thread := range threads {
			ref := b.make(thread, c[0], c[1], thread == 1)
			for i := range c[1] {
				b.put(i%threads, ref, i, ref*(i%2))
			}
			b.wantNoWord(thread, ref, -1, api.ErrRefsBounds)
			b.wantNoWord(thread, ref, c[1], api.ErrRefsBounds)
			b.wantNoWord(thread, ref, math.MaxInt, api.ErrRefsBounds)
			b.wantNoWord(thread, ref, math.MinInt, api.ErrRefsBounds)
		}
	}
	b.wantSame()
}

func TestP13_1MakeRefuses(t *testing.T) {
	b := bothOf(t, 1024)
	for _, c := range [][3]int{{api.CellNone, 0, 0}, {api.CellWeak, 0, 1}, {api.CellWeak, 0, 0}, {5, 0, 1}, {-1, 0, 1},
		{math.MaxInt, 0, 1}, {api.CellObject, 0, -1}, {api.CellObject, 0, 65}, {api.CellInts, 0, -1},
		{api.CellInts, 0, api.MaxArray + 1}, {api.CellRefs, 0, api.MaxArray + 1}, {api.CellRefs, 0, math.MaxInt},
		{api.CellObject, -1, 1}, {api.CellInts, math.MinInt, 1}, {api.CellRefs, -1, 1}} {
		b.wantNoMake(1, c[0], c[1], c[2], api.ErrRefsBounds)
		b.wantNoMake(threads, c[0], c[1], c[2], api.ErrRefsRef)
	}
	for range api.MaxRoots {
		b.push(1, 0)
	}
	b.wantNoMake(1, api.CellObject, 0, 0, api.ErrRefsRoots)
	b.wantNoMake(1, api.CellObject, 0, 65, api.ErrRefsBounds)
	b.wantNoMake(1, api.CellInts, 0, api.MaxArray, api.ErrRefsRoots)
	b.wantNoMake(2, api.CellInts, 0, api.MaxArray, api.ErrRefsFull)
	b.wantNoMake(2, api.CellInts, 0, api.MaxArray+1, api.ErrRefsBounds)
	b.wantSame()
}

func TestP13_1NoSuchThread(t *testing.T) {
	b := bothOf(t, 1024)
	ref := b.make(0, api.CellRefs, 2, true)
	weak := b.weak(0, ref)
	for _, thread := range noThreads {
		b.wantNoMake(thread, api.CellObject, 0, 1, api.ErrRefsRef)
		b.wantNoWeak(thread, ref, api.ErrRefsRef)
		b.wantNoDeref(thread, weak)
		b.wantNoWord(thread, ref, 0, api.ErrRefsRef)
		b.wantNoWord(thread, ref, 2, api.ErrRefsRef)
		b.wantNoWord(thread, weak, 0, api.ErrRefsRef)
		if code := b.h.Push(thread, ref); code != api.ErrRefsRef {
			t.Errorf("Push(%d, %d) = %d", thread, ref, code)
		}
		if got, code := b.h.Pop(thread); got != 0 || code != api.ErrRefsRef {
			t.Errorf("Pop(%d) = %d, %d", thread, got, code)
		}
	}
	b.wantSame()
}

func TestP13_1RefsThatAreNone(t *testing.T) {
	b := bothOf(t, 1024)
	ref := b.make(0, api.CellRefs, 2, false)
	for _, none := range noCells {
		b.wantNoDeref(0, none)
		b.wantNoWeak(0, none, api.ErrRefsRef)
		b.wantNoWord(0, none, 0, api.ErrRefsRef)
	}
	b.wantNoDeref(0, ref)
	b.wantSame()
}

func TestP13_1RootsAreAStack(t *testing.T) {
	b := bothOf(t, 4096)
	for thread := range threads {
		b.make(thread, api.CellObject, 1, false)
		b.weak(thread, b.roots[0][0])
		b.push(thread, 0)
	}
	for thread := range threads {
		for range 5 {
			b.pop(thread)
		}
	}
	for i := range api.MaxRoots + 2 {
		b.push(2, b.refs()[i%len(b.held)])
	}
	b.wantNoWeak(2, b.refs()[0], api.ErrRefsRoots)
	b.wantNoWeak(2, 0, api.ErrRefsRef)
	for range api.MaxRoots + 2 {
		b.pop(2)
	}
	b.wantSame()
}

func TestP13_1WeakAndDeref(t *testing.T) {
	b := bothOf(t, 4096)
	for _, kind := range []int{api.CellObject, api.CellInts, api.CellRefs} {
		ref := b.make(0, kind, 2, kind == api.CellInts)
		weak := b.weak(1, ref)
		above := b.weak(2, weak)
		for thread := range threads {
			b.wantDeref(thread, weak, ref)
			b.wantDeref(thread, above, weak)
			b.wantNoDeref(thread, ref)
			for _, i := range []int{-1, 0, 1, math.MaxInt} {
				b.wantNoWord(thread, weak, i, api.ErrRefsBounds)
			}
		}
	}
	b.wantSame()
	b.wantCycle()
	b.wantSame()
}

// Heaps of every remainder of words, each filled until nothing more fits, and emptied again.
func TestP13_1Full(t *testing.T) {
	for words := 1024; words < 1024+80; words++ {
		b := bothOf(t, words)
		ref := b.make(0, api.CellInts, 3, false)
		for b.weak(0, ref) != 0 {
		}
		for n := 20; n >= 0; n-- {
			b.make(0, api.CellObject, n, n%2 == 0)
		}
		b.wantNoMake(1, api.CellInts, 0, api.MaxArray, api.ErrRefsFull)
		b.wantSame()
		b.popAll(0)
		b.wantCycle()
		for b.next() != 0 {
			b.pop(0)
		}
		b.wantCycle()
		b.wantRefs()
		if b.make(1, api.CellInts, words/4-16, false) == 0 {
			t.Fatalf("of %d words a quarter is not there", words)
		}
	}
}

// wantRefuses tells that all calls answer that error, or nothing.
func wantRefuses(t *testing.T, h *refs.Heap, want, cycle api.Errno) {
	t.Helper()
	for _, n := range []int{-1, 0, 1, 2, 4, 65, 1001} {
		if ref, code := h.Make(n, n, n, n, true); ref != 0 || code != want {
			t.Errorf("Make(%d ..) = %d, %d; want 0, %d", n, ref, code, want)
		}
		if ref, code := h.Weak(n, n); ref != 0 || code != want {
			t.Errorf("Weak(%d ..) = %d, %d; want 0, %d", n, ref, code, want)
		}
		if ref, code := h.Deref(n, n); ref != 0 || code != want {
			t.Errorf("Deref(%d ..) = %d, %d; want 0, %d", n, ref, code, want)
		}
		if ref, code := h.Pop(n); ref != 0 || code != want {
			t.Errorf("Pop(%d) = %d, %d; want 0, %d", n, ref, code, want)
		}
		if v, code := h.Load(n, n, n); v != 0 || code != want {
			t.Errorf("Load(%d ..) = %d, %d; want 0, %d", n, v, code, want)
		}
		if push, put := h.Push(n, n), h.Put(n, n, n, n); push != want || put != want {
			t.Errorf("Push(%d ..) = %d, Put(%d ..) = %d; want %d", n, push, n, put, want)
		}
	}
	if cleared, queued, code := h.Cycle(); len(cleared) != 0 || len(queued) != 0 || code != cycle {
		t.Errorf("Cycle() = %v, %v, %d; want %d", cleared, queued, code, cycle)
	}
	if ref, has := h.Next(); ref != 0 || has || len(h.Refs()) != 0 {
		t.Errorf("Next() = %d, %v; Refs() = %v", ref, has, h.Refs())
	}
}

func TestR3Nil(t *testing.T) {
	wantRefuses(t, nil, api.ErrNil, api.ErrNil)
}

// TestR1NotMadeByNew: one that New did not make has no threads and no cells.
func TestR1NotMadeByNew(t *testing.T) {
	h := &refs.Heap{}
	wantRefuses(t, h, api.ErrRefsRef, api.OK)
	wantRefuses(t, h, api.ErrRefsRef, api.OK)
}
