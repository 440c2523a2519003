package collect_test

import (
	"testing"

	"gneiss/api"
	"gneiss/collect"
)

// weak makes a CellWeak of what is there.
func (b *both) weak(thread, ref int) int {
	b.t.Helper()
	weak, code := b.h.Weak(thread, ref)
	if weak == 0 || code != api.OK {
		b.t.Fatalf("Weak(%d, %d) = %d, %d", thread, ref, weak, code)
	}
	b.held[weak] = held{is: api.Cell{Kind: api.CellWeak, Class: api.ClassWeak, Size: 1}, words: []int{ref}}
	b.roots[thread] = append(b.roots[thread], weak)
	return weak
}

// untilClear goes on to PhaseClear, with answers behind each step.
func (b *both) untilClear() {
	b.t.Helper()
	for b.h.Phase() == api.PhaseMark {
		b.h.Step()
		b.answerAll()
	}
	b.wantPhase(api.PhaseClear)
}

// goOn begins a cycle, if none is under way, and goes on to its end. What Keep kept is none of what both takes for dead.
func (b *both) goOn() {
	b.t.Helper()
	b.h.Begin()
	for under := true; under; under, _ = b.h.Step() {
		b.answerAll()
	}
	b.cycles, b.dead, b.gone = b.h.Cycles(), nil, nil
}

func (b *both) wantUnreached(want bool, refs ...int) {
	b.t.Helper()
	for _, ref := range refs {
		if got := b.h.IsUnreached(ref); got != want {
			b.t.Fatalf("phase %d: IsUnreached(%d) = %v", b.h.Phase(), ref, got)
		}
	}
}

func (b *both) wantClear(weak int, want bool) {
	b.t.Helper()
	before := b.steps()
	if got := b.h.Clear(weak); got != want {
		b.t.Fatalf("phase %d: Clear(%d) = %v", b.h.Phase(), weak, got)
	}
	b.wantSteps(before, 0, 0)
}

func (b *both) wantNoWeak(thread, ref int, want api.Errno) {
	b.t.Helper()
	if weak, code := b.h.Weak(thread, ref); weak != 0 || code != want {
		b.t.Fatalf("Weak(%d, %d) = %d, %d; want 0, %d", thread, ref, weak, code, want)
	}
}

// A quarter of 1024 words is room for a cell of 206 and for two CellWeaks, of 17 each.
func TestWeakRefuses(t *testing.T) {
	b := bothOf(t, 1024)
	ref := b.make(0, api.CellInts, 206)
	for _, none := range append(wild, 0, ref+1) {
		b.wantNoWeak(0, none, api.ErrCollectRef)
		b.wantNoWeak(threads, none, api.ErrCollectThread)
		b.wantClear(none, false)
		b.wantUnreached(false, none)
	}
	for _, thread := range noThreads {
		b.wantNoWeak(thread, ref, api.ErrCollectThread)
	}
	first := b.weak(0, ref)
	b.weak(1, first)
	b.wantNoWeak(2, ref, api.ErrCollectFull)
	for len(b.roots[2]) < api.MaxRoots {
		b.push(2, ref)
	}
	b.wantNoWeak(2, ref, api.ErrCollectRoots)
	b.wantNoWeak(2, 0, api.ErrCollectRef)
	b.wantSame()
}

// A CellWeak is cleared in PhaseClear alone, and just if what it names is unreached.
func TestClearInPhaseClear(t *testing.T) {
	b := bothOf(t, 4096)
	kept, dead := b.make(0, api.CellRefs, 1), b.make(1, api.CellObject, 1)
	b.pop(1)
	toKept, toDead := b.weak(2, kept), b.weak(2, dead)
	for range 2 {
		b.wantUnreached(false, kept, dead, toKept, toDead)
		for _, ref := range []int{kept, dead, toKept, toDead} {
			b.wantClear(ref, false)
		}
		b.begin()
	}
	b.untilClear()
	late := b.make(1, api.CellObject, 0)
	b.wantUnreached(true, dead)
	b.wantUnreached(false, kept, toKept, toDead, late, 0, -1, 999)
	b.wantClear(toKept, false)
	b.wantClear(kept, false)
	b.wantClear(dead, false)
	b.wantClear(toDead, true)
	b.wantClear(toDead, false)
	b.held[toDead].words[0] = 0
	b.step()
	b.wantPhase(api.PhaseSweep)
	b.wantUnreached(false, dead)
	b.end()
	b.wantSame()
	b.wantRefs(kept, toKept, toDead, late)
}

// What is kept while the collector marks, or ahead of the sweep, stays with all that it reaches; later it is too late.
func TestKeep(t *testing.T) {
	for _, phase := range []int{api.PhaseIdle, api.PhaseMark, api.PhaseClear, api.PhaseSweep} {
		b := bothOf(t, 4096)
		chain := b.chain(0, api.CellRefs, 2, 4)
		b.pop(0)
		if phase != api.PhaseIdle {
			b.begin()
		}
		if phase > api.PhaseMark {
			b.untilClear()
		}
		if phase == api.PhaseSweep {
			b.step()
		}
		b.wantPhase(phase)
		b.h.Keep(chain[2])
		if phase == api.PhaseClear {
			b.wantPhase(api.PhaseMark)
			b.untilClear()
			b.wantUnreached(false, chain[:3]...)
			b.wantUnreached(true, chain[3])
		} else {
			b.wantPhase(phase)
		}
		b.goOn()
		want := chain[:3]
		if phase == api.PhaseIdle || phase == api.PhaseSweep {
			want = nil
		}
		b.wantRefs(want...)
	}
}

// The threads go on while a kept one is marked: what they take out of it then is not lost.
func TestKeptWhileTheThreadsGoOn(t *testing.T) {
	b := bothOf(t, 4096)
	holder := b.make(1, api.CellRefs, 1)
	chain := b.chain(0, api.CellRefs, 2, 3)
	b.pop(0)
	b.begin()
	b.untilClear()
	head, under := chain[2], chain[1]
	b.h.Keep(head)
	b.push(2, head)
	b.put(2, holder, 0, under)
	b.put(2, head, 0, 0)
	b.pop(2)
	b.goOn()
	b.wantSame()
	b.wantRefs(holder, chain[0], under, head)
}

func TestWeakOfNil(t *testing.T) {
	var none *collect.Heap
	for _, h := range []*collect.Heap{none, {}} {
		want := api.ErrNil
		if h != nil {
			want = api.ErrCollectThread
		}
		if weak, code := h.Weak(0, 1); weak != 0 || code != want {
			t.Errorf("Weak(0, 1) = %d, %d; want 0, %d", weak, code, want)
		}
		h.Keep(1)
		if h.Clear(1) || h.IsUnreached(1) {
			t.Error("something is cleared or unreached where nothing is")
		}
	}
}
