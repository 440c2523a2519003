package refs_test

import (
	"slices"
	"testing"

	"gneiss/api"
)

// reached is the cells that the roots and the queue reach, with what each is.
func (b *both) reached() map[int]*held {
	is := map[int]*held{}
	row := slices.Concat(b.roots[0], b.roots[1], b.roots[2], b.queue)
	for len(row) > 0 {
		ref := row[0]
		row = row[1:]
		c := b.held[ref]
		if is[ref] != nil || c == nil {
			continue
		}
		is[ref] = c
		if c.kind == api.CellObject || c.kind == api.CellRefs {
			row = append(row, c.words...)
		}
	}
	return is
}

// collect does what a cycle must do, by the chapter's words, and is what it must answer.
func (b *both) collect() (cleared, queued []int) {
	reached := b.reached()
	for _, ref := range b.refs() {
		if c := b.held[ref]; c.kind == api.CellWeak && c.referent != 0 && reached[c.referent] == nil {
			c.referent = 0
			cleared = append(cleared, ref)
		}
	}
	for _, ref := range b.refs() {
		if c := b.held[ref]; c.final && reached[ref] == nil {
			c.final = false
			queued = append(queued, ref)
		}
	}
	b.queue = append(b.queue, queued...)
	b.held = b.reached()
	return cleared, queued
}

// wantCycle tells that a cycle does what it must.
func (b *both) wantCycle() {
	b.t.Helper()
	wantCleared, wantQueued := b.collect()
	cleared, queued, code := b.h.Cycle()
	if !slices.Equal(cleared, wantCleared) || !slices.Equal(queued, wantQueued) || code != api.OK {
		b.t.Fatalf("Cycle() = %v, %v, %d; want %v, %v, OK", cleared, queued, code, wantCleared, wantQueued)
	}
	b.wantSame()
}

// wantDoes tells that a cycle clears these, queues those and does nothing else than it must.
func (b *both) wantDoes(cleared, queued []int) {
	b.t.Helper()
	gotCleared, gotQueued, code := b.h.Cycle()
	if !slices.Equal(gotCleared, cleared) || !slices.Equal(gotQueued, queued) || code != api.OK {
		b.t.Fatalf("Cycle() = %v, %v, %d; want %v, %v, OK", gotCleared, gotQueued, code, cleared, queued)
	}
	b.collect()
	b.wantSame()
}

func (b *both) next() int {
	b.t.Helper()
	want, has := 0, len(b.queue) > 0 && len(b.roots[0]) < api.MaxRoots
	if has {
		want = b.queue[0]
		b.queue = b.queue[1:]
		b.roots[0] = append(b.roots[0], want)
	}
	if ref, got := b.h.Next(); ref != want || got != has {
		b.t.Fatalf("Next() = %d, %v; want %d, %v", ref, got, want, has)
	}
	return want
}

func TestP13_2AnEmptyHeap(t *testing.T) {
	b := bothOf(t, 1024)
	for range 3 {
		b.wantDoes(nil, nil)
		b.next()
	}
	b.push(0, 0)
	b.wantDoes(nil, nil)
}

func TestP13_2WhatIsUnreachedGoes(t *testing.T) {
	b := bothOf(t, 4096)
	ring := b.make(0, api.CellRefs, 2, false)
	other := b.make(1, api.CellObject, 1, false)
	ints := b.make(2, api.CellInts, 1, false)
	b.put(0, ring, 0, other)
	b.put(0, other, 0, ring)
	b.put(0, ring, 1, ints)
	b.pop(1)
	b.pop(2)
	b.wantDoes(nil, nil)
	b.wantRefs(ring, other, ints)
	b.pop(0)
	b.wantDoes(nil, nil)
	b.wantRefs()
}

// A CellWeak does not reach its referent, whoever reaches it; it is cleared once.
func TestP13_2WeakReachesNothing(t *testing.T) {
	for owner := range threads {
		b := bothOf(t, 4096)
		ref := b.make(0, api.CellRefs, 1, false)
		first, second := b.weak(owner, ref), b.weak(owner, ref)
		b.wantDoes(nil, nil)
		b.push(1, ref)
		holder := b.make(2, api.CellRefs, 2, false)
		b.put(2, holder, 0, first)
		b.put(2, holder, 1, second)
		b.wantDoes(nil, nil)
		b.popAll(0)
		b.popAll(1)
		b.wantDoes([]int{first, second}, nil)
		b.wantDeref(0, first, 0)
		b.wantDeref(1, second, 0)
		b.wantDoes(nil, nil)
	}
}

// Those that are not reached themselves are cleared and told as well, and go.
func TestP13_2UnreachedWeaksAreTold(t *testing.T) {
	b := bothOf(t, 4096)
	kept, dead := b.make(0, api.CellObject, 0, false), b.make(1, api.CellObject, 0, false)
	toKept, toDead := b.weak(1, kept), b.weak(1, dead)
	above, atop := b.weak(1, toKept), b.weak(2, toDead)
	b.popAll(1)
	b.wantDoes([]int{toDead, above, atop}, nil)
	b.wantRefs(kept, atop)
	b.wantNoDeref(0, toKept)
	b.wantNoDeref(0, toDead)
	b.wantDeref(0, atop, 0)
}

// Ints that look like a ref reach nothing.
func TestP13_2IntsReachNothing(t *testing.T) {
	b := bothOf(t, 4096)
	ints := b.make(0, api.CellInts, 2, false)
	dead := b.make(1, api.CellObject, 0, true)
	weak := b.weak(0, dead)
	b.put(0, ints, 1, dead)
	b.pop(1)
	b.wantDoes([]int{weak}, []int{dead})
}

// Those that only a queued one reaches are cleared for, and stay; finalizable ones among them are queued beside it.
func TestP13_2WhatAQueuedOneReachesStays(t *testing.T) {
	b := bothOf(t, 4096)
	end := b.make(1, api.CellInts, 1, true)
	middle := b.make(1, api.CellRefs, 2, false)
	first := b.make(1, api.CellObject, 1, true)
	weaks := []int{b.weak(2, first), b.weak(2, middle), b.weak(2, end)}
	inside := b.weak(1, middle)
	b.put(0, first, 0, middle)
	b.put(0, middle, 0, end)
	b.put(0, middle, 1, inside)
	b.popAll(1)
	b.wantDoes(append(slices.Clone(weaks), inside), []int{end, first})
	b.wantRefs(append(weaks, inside, first, middle, end)...)
	b.wantDoes(nil, nil)
	if b.next() != end || b.next() != first || b.next() != 0 {
		t.Fatal("the queue's row is another")
	}
	b.pop(0)
	b.wantDoes(nil, nil)
	b.wantRefs(append(weaks, end)...)
	b.pop(0)
	b.wantDoes(nil, nil)
	b.wantRefs(weaks...)
}

// A weak reference to one in the queue is not cleared: the queue reaches it.
func TestP13_2TheQueueReaches(t *testing.T) {
	b := bothOf(t, 4096)
	under := b.make(0, api.CellInts, 2, false)
	ref := b.make(0, api.CellRefs, 1, true)
	b.put(0, ref, 0, under)
	b.popAll(0)
	b.wantDoes(nil, []int{ref})
	late, lateUnder := b.weak(1, ref), b.weak(1, under)
	b.wantDoes(nil, nil)
	b.next()
	b.wantDoes(nil, nil)
	b.popAll(0)
	b.wantDoes([]int{late, lateUnder}, nil)
	b.wantRefs(late, lateUnder)
}

// All kinds may be finalizable, rings of them too.
func TestP13_2RingsOfFinalizables(t *testing.T) {
	b := bothOf(t, 8192)
	var ring []int
	for i := range 9 {
		ring = append(ring, b.make(i%threads, []int{api.CellObject, api.CellRefs}[i%2], 2, true))
	}
	ints := b.make(0, api.CellInts, 2, true)
	for i, ref := range ring {
		b.put(0, ref, 0, ring[(i+4)%len(ring)])
		b.put(1, ref, 1, ints)
	}
	b.popAll(0)
	b.popAll(1)
	b.wantDoes(nil, nil)
	b.popAll(2)
	b.wantDoes(nil, append(slices.Clone(ring), ints))
	b.wantRefs(append(ring, ints)...)
}

func TestP13_3FirstInFirstOut(t *testing.T) {
	b := bothOf(t, 8192)
	var refs []int
	for range 6 {
		refs = append(refs, b.make(1, api.CellObject, 0, true))
	}
	keep := func(kept ...int) {
		b.popAll(1)
		for _, ref := range kept {
			b.push(1, ref)
		}
	}
	keep(refs[0], refs[1], refs[2], refs[3])
	b.wantDoes(nil, []int{refs[4], refs[5]})
	keep(refs[1], refs[2])
	b.wantDoes(nil, []int{refs[0], refs[3]})
	if b.next() != refs[4] {
		t.Fatal("it did not stand there longest")
	}
	keep()
	b.wantDoes(nil, []int{refs[1], refs[2]})
	for _, i := range []int{5, 0, 3, 1, 2} {
		if b.next() != refs[i] {
			t.Fatal("the queue's row is another")
		}
	}
	b.next()
	for _, i := range []int{2, 1, 3, 0, 5, 4} {
		if ref, code := b.h.Pop(0); ref != refs[i] || code != api.OK {
			t.Fatalf("Pop(0) = %d, %d; want %d", ref, code, refs[i])
		}
	}
}

// Without room on thread 0's roots it stays in the queue, and at its place.
func TestP13_3NoRoomOnTheRoots(t *testing.T) {
	b := bothOf(t, 4096)
	first, second := b.make(1, api.CellObject, 0, true), b.make(2, api.CellObject, 0, true)
	b.popAll(1)
	b.popAll(2)
	b.wantCycle()
	for range api.MaxRoots {
		b.push(0, 0)
		b.push(1, 0)
	}
	for range 3 {
		if b.next() != 0 {
			t.Fatal("it was pushed on roots that are full")
		}
		b.wantDoes(nil, nil)
	}
	b.pop(0)
	if b.next() != first || b.next() != 0 {
		t.Fatal("the first stood in the queue no more")
	}
	b.pop(0)
	if b.next() != second || b.next() != 0 {
		t.Fatal("the second stood in the queue no more")
	}
	b.wantDoes(nil, nil)
	b.wantRefs(second)
}

// One that comes back behind its queueing is never queued again, however often it comes and goes.
func TestP13_4QueuedAtMostOnce(t *testing.T) {
	b := bothOf(t, 4096)
	shelf := b.make(1, api.CellRefs, 1, false)
	ref := b.make(0, api.CellObject, 1, true)
	b.put(0, ref, 0, ref)
	weak := b.weak(1, ref)
	b.popAll(0)
	b.wantDoes([]int{weak}, []int{ref})
	b.put(0, shelf, 0, b.next())
	b.pop(0)
	again := b.weak(1, ref)
	b.wantDoes(nil, nil)
	b.wantDeref(0, again, ref)
	b.wantDeref(0, weak, 0)
	b.put(0, shelf, 0, 0)
	b.wantDoes([]int{again}, nil)
	b.wantRefs(shelf, weak, again)
	if b.next() != 0 {
		t.Fatal("it was queued twice")
	}
}

// When one is queued, all weak references to it are cleared, those that only others in the queue reach too.
func TestP13_4ClearedAheadOfItsQueueing(t *testing.T) {
	b := bothOf(t, 8192)
	holder := b.make(0, api.CellRefs, 3, true)
	ref := b.make(0, api.CellObject, 0, true)
	for i := range 3 {
		b.put(1, holder, i, b.weak(1, ref))
	}
	outside := b.weak(2, ref)
	b.popAll(0)
	b.popAll(1)
	cleared, queued, _ := b.h.Cycle()
	if len(cleared) != 4 || cleared[3] != outside || !slices.Equal(queued, []int{holder, ref}) {
		t.Fatalf("Cycle() = %v, %v", cleared, queued)
	}
	for _, weak := range cleared {
		b.wantDeref(1, weak, 0)
	}
	b.collect()
	b.wantSame()
}

// row is a fixed row of numbers.
type row uint64

func (r *row) next(below int) int {
	*r = *r*6364136223846793005 + 1442695040888963407
	return int(uint64(*r) >> 33 % uint64(below))
}

// anyOf is one of those that are reached; 0, if none is.
func (b *both) anyOf(r *row) int {
	var all []int
	for ref := range b.reached() {
		all = append(all, ref)
	}
	if len(all) == 0 {
		return 0
	}
	slices.Sort(all)
	return all[r.next(len(all))]
}

func (b *both) putAny(thread int, r *row) {
	b.t.Helper()
	ref, v := b.anyOf(r), b.anyOf(r)*r.next(2)
	if c := b.held[ref]; c != nil && len(c.words) > 0 {
		b.put(thread, ref, r.next(len(c.words)), v)
	}
}

// anyCall does one thing that a fixed row of numbers says.
func (b *both) anyCall(r *row, longest int) {
	b.t.Helper()
	thread := r.next(threads)
	switch r.next(16) {
	case 0, 1, 2:
		b.make(thread, 1+r.next(3), r.next(longest), r.next(3) == 0)
	case 3, 4:
		if ref := b.anyOf(r); ref != 0 {
			b.weak(thread, ref)
		}
	case 5:
		b.push(thread, b.anyOf(r))
	case 6, 7, 8, 9:
		b.pop(thread)
	case 10, 11, 12:
		b.putAny(thread, r)
	case 13, 14:
		b.next()
	default:
		b.wantCycle()
	}
}

func TestP13_4LongWalks(t *testing.T) {
	r := row(13)
	for round := range 120 {
		b := bothOf(t, 1024+r.next(40*(1+round)))
		longest := 1 + r.next(9)
		for range 700 {
			b.anyCall(&r, longest)
		}
		b.wantCycle()
	}
}

// As many cells as there can be, in chains that end in one another, and all weak or finalizable.
func TestP13_4TheGreatestHeap(t *testing.T) {
	b := bothOf(t, api.MaxWords)
	last := 0
	for b.refusal(0, 2) == api.OK && b.refusal(1, 1) == api.OK {
		ref := b.make(0, api.CellObject, 2, len(b.held)%3 == 0)
		b.put(0, ref, 0, last)
		b.put(0, ref, 1, b.weak(1, ref))
		b.popAll(0)
		b.popAll(1)
		b.push(2, ref)
		last = ref
	}
	b.popAll(2)
	b.push(2, last)
	b.wantCycle()
	b.pop(2)
	b.wantCycle()
	for b.next() != 0 {
		b.pop(0)
	}
	b.wantCycle()
	b.wantRefs()
}

// Lists that are answered are the caller's own.
func TestR4AnswersAreTheCallersOwn(t *testing.T) {
	b := bothOf(t, 4096)
	for range 4 {
		b.weak(1, b.make(0, api.CellObject, 0, true))
	}
	weaks := slices.Clone(b.roots[1])
	finals := slices.Clone(b.roots[0])
	b.pop(0)
	b.pop(0)
	spoil := func(lists ...[]int) {
		for _, list := range lists {
			for i := range list {
				list[i] = -1
			}
			_ = append(list, -1, -1, -1)
		}
	}
	cleared, queued, _ := b.h.Cycle()
	if !slices.Equal(cleared, weaks[2:]) || !slices.Equal(queued, finals[2:]) {
		t.Fatalf("Cycle() = %v, %v", cleared, queued)
	}
	b.collect()
	spoil(cleared, queued, b.h.Refs())
	b.wantSame()
	b.popAll(0)
	cleared, queued, _ = b.h.Cycle()
	if !slices.Equal(cleared, weaks[:2]) || !slices.Equal(queued, finals[:2]) {
		t.Fatalf("Cycle() = %v, %v", cleared, queued)
	}
	b.collect()
	spoil(queued, cleared)
	for _, i := range []int{2, 3, 0, 1} {
		if b.next() != finals[i] {
			t.Fatal("the queue's row is another")
		}
	}
}

// Refs that are neither 0 nor reached may do what they like, but no call panics, and all end.
func TestR1RefsThatAreNotReached(t *testing.T) {
	r := row(31)
	for range 30 {
		b := bothOf(t, 1024+r.next(3000))
		for range 500 {
			thread, ref := r.next(threads), r.next(60)-3
			if r.next(4) == 0 {
				ref = noCells[r.next(len(noCells))]
			}
			switch r.next(9) {
			case 0:
				b.h.Make(thread, 1+r.next(4), 0, r.next(9), r.next(2) == 0)
			case 1:
				b.h.Weak(thread, ref)
			case 2:
				b.h.Deref(thread, ref)
			case 3:
				b.h.Push(thread, ref)
			case 4:
				b.h.Pop(thread)
			case 5, 6:
				b.h.Put(thread, r.next(60), r.next(9), ref)
			case 7:
				b.h.Next()
			default:
				b.h.Cycle()
			}
		}
	}
}
