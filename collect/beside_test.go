package collect_test

import (
	"slices"
	"testing"

	"gneiss/api"
)

// beside does what the threads do behind so many steps of a cycle, of which the answers come by turns, for each number
// of steps that a cycle may take, and tells that nothing is lost, and that what is dead is gone behind the next cycle.
// What the threads do comes in parts, one behind each step from then on.
func beside(t *testing.T, build func(b *both), parts ...func(b *both)) {
	t.Helper()
	for ahead, ends := 0, false; !ends; ahead++ {
		for first := range threads {
			b := bothOf(t, 4096)
			build(b)
			b.begin()
			for step := range ahead {
				ends = !b.step()
				if step%3 == 2 {
					b.answer((first + step/3) % threads)
				}
			}
			for _, part := range parts {
				part(b)
				b.wantSame()
				b.step()
				b.wantSame()
			}
			b.begin()
			b.end()
			b.wantSame()
			reached := b.reached()
			b.cycle()
			b.wantRefs(reached...)
			b.wantSame()
		}
	}
}

// Three cells a, b, c: a and b are roots, and a names c.
func threeCells(b *both) {
	b.make(0, api.CellRefs, 3)
	b.make(1, api.CellObject, 3)
	b.make(2, api.CellObject, 3)
	b.put(0, 1, 2, 3)
	b.pop(2)
}

// The one ref to c goes from a to b, which the collector may be through with.
func TestP12_4ARefGoesFromCellToCell(t *testing.T) {
	for _, into := range []int{0, 1, 2} {
		beside(t, threeCells, func(b *both) {
			b.put(0, 2, into, 3)
			b.put(0, 1, 2, 0)
		})
		beside(t, threeCells, func(b *both) { b.put(1, 2, into, 3) }, func(b *both) { b.put(0, 1, 2, 1) })
	}
}

// It goes there and back.
func TestP12_4ARefGoesThereAndBack(t *testing.T) {
	var parts []func(b *both)
	for range 3 {
		parts = append(parts,
			func(b *both) { b.put(0, 2, 1, 3) },
			func(b *both) { b.put(0, 1, 2, 0) },
			func(b *both) { b.put(0, 1, 2, 3) },
			func(b *both) { b.put(0, 2, 1, 2) })
	}
	beside(t, threeCells, parts...)
}

// The one ref to c goes out of its cell onto the roots of each thread, which may have answered.
func TestP12_4ARefGoesFromCellToRoots(t *testing.T) {
	for thread := range threads {
		beside(t, threeCells, func(b *both) { b.push(thread, 3) }, func(b *both) { b.put(0, 1, 2, 0) })
	}
}

// The one ref to it goes from the roots of one thread, which may not have answered, to those of another, which may.
func TestP12_4ARefGoesFromRootsToRoots(t *testing.T) {
	for from := range threads {
		for to := range threads {
			beside(t, func(b *both) {
				b.make(from, api.CellInts, 2)
				b.put(from, 1, 1, -7)
			}, func(b *both) { b.push(to, 1) }, func(b *both) {
				if from != to {
					b.pop(from)
				}
			})
		}
	}
}

// The one ref to it goes from the roots into a cell that the collector may be through with.
func TestP12_4ARefGoesFromRootsToCell(t *testing.T) {
	for thread := range threads {
		beside(t, func(b *both) {
			b.make(0, api.CellRefs, 2)
			b.make(thread, api.CellObject, 2)
			b.put(0, 2, 0, 2)
		}, func(b *both) {
			b.put(thread, 1, 0, 2)
			b.pop(thread)
		})
	}
}

// A new cell is the only one that names an old one, or an old one that names a new one.
func TestP12_4NewCellsNameOldOnes(t *testing.T) {
	for thread := range threads {
		beside(t, threeCells, func(b *both) {
			b.put(thread, b.make(thread, api.CellRefs, 2), 1, 3)
			b.put(0, 1, 2, 0)
		}, func(b *both) {
			made := b.roots[thread][len(b.roots[thread])-1]
			b.put(thread, 2, 0, made)
			b.pop(thread)
		})
	}
}

// The whole way to the end of a chain is turned round while the collector goes along it.
func TestP12_4AChainIsTurnedRound(t *testing.T) {
	const count = 6
	var parts []func(b *both)
	for i := count; i > 1; i-- {
		parts = append(parts, func(b *both) {
			b.push(1, i-1)
			b.put(1, i, (i-1)%2, 0)
			b.put(1, i-1, (i-1)%2, i)
		})
	}
	parts = append(parts, func(b *both) {
		for len(b.roots[1]) > 1 {
			b.pop(1)
		}
		b.push(2, 1)
		b.pop(1)
		b.pop(0)
	})
	beside(t, func(b *both) { b.chain(0, api.CellRefs, 2, count) }, parts...)
}

// What names itself and one another, but is not reached, is gone.
func TestP12_4RingsThatAreUnreached(t *testing.T) {
	b := bothOf(t, 4096)
	keeps := b.make(1, api.CellObject, 1)
	refs := b.chain(0, api.CellRefs, 2, 6)
	for _, ref := range refs {
		b.put(0, ref, 0, refs[5])
		b.put(0, ref, 1, ref)
	}
	b.put(0, refs[0], 0, keeps)
	b.wantCycle()
	b.pop(0)
	b.wantCycle()
	b.wantRefs(keeps)
}

// What becomes unreached while a cycle is under way is gone behind the next one at the latest.
func TestP12_4DroppedWhileACycleIsUnderWay(t *testing.T) {
	beside(t, threeCells, func(b *both) { b.put(0, 1, 2, 0) }, func(b *both) { b.pop(1) }, func(b *both) { b.pop(0) })
}

// anyOf is one of those that are reached; 0, if none is.
func (b *both) anyOf(r *row) int {
	refs := b.reached()
	if len(refs) == 0 {
		return 0
	}
	return refs[r.next(len(refs))]
}

// anyCall does one thing that a fixed row of numbers says.
func (b *both) anyCall(r *row, longest int) {
	b.t.Helper()
	thread := r.next(threads)
	switch r.next(14) {
	case 0, 1:
		b.make(thread, kinds[r.next(len(kinds))], r.next(longest))
	case 2:
		b.push(thread, b.anyOf(r))
	case 3, 4:
		b.pop(thread)
	case 5, 6, 7, 8:
		b.putAny(thread, r)
	case 9:
		if r.next(4) == 0 {
			b.begin()
		}
	case 10:
		b.answer(thread)
	default:
		b.step()
	}
}

func (b *both) putAny(thread int, r *row) {
	b.t.Helper()
	ref := b.anyOf(r)
	if ref == 0 || b.held[ref].is.Size == 0 {
		return
	}
	i, v := r.next(b.held[ref].is.Size), b.anyOf(r)*r.next(2)
	if b.held[ref].is.Kind == api.CellInts {
		v = r.next(200) - 100
	}
	b.put(thread, ref, i, v)
}

func TestP12_4LongWalks(t *testing.T) {
	r := row(3)
	for round := range 150 {
		b := bothOf(t, 1024+r.next(30*(1+round)))
		longest := 1 + r.next(8)
		for i := range 600 {
			b.anyCall(&r, longest)
			b.wantThere()
			if i%8 == 0 {
				b.wantSame()
			}
		}
		b.begin()
		b.end()
		b.wantCycle()
	}
}

func TestP12_4ALongWalkInTheGreatestHeap(t *testing.T) {
	r := row(11)
	b := bothOf(t, api.MaxWords)
	for i := range 6000 {
		b.anyCall(&r, 60)
		if i%500 == 0 {
			b.wantSame()
		}
	}
	b.begin()
	b.end()
	b.wantCycle()
}

// Two heaps that are handed the same answer the same.
func TestR5NothingElseCounts(t *testing.T) {
	r, again := row(21), row(21)
	first, second := bothOf(t, 3000), bothOf(t, 3000)
	for i := range 1500 {
		first.anyCall(&r, 9)
		second.anyCall(&again, 9)
		if !slices.Equal(first.h.Refs(), second.h.Refs()) || !slices.Equal(first.steps(), second.steps()) || first.h.Phase() != second.h.Phase() {
			t.Fatalf("call %d: %v, %v; %v, %v", i, first.h.Refs(), second.h.Refs(), first.steps(), second.steps())
		}
	}
}

// Refs that are neither 0 nor reached may do what they like, but no call panics, and cycles end.
func TestR1RefsThatAreNone(t *testing.T) {
	r := row(33)
	for range 20 {
		b := bothOf(t, 1024+r.next(2000))
		for range 400 {
			thread, ref := r.next(threads), r.next(40)-3
			if r.next(3) == 0 {
				ref = wild[r.next(len(wild))]
			}
			switch r.next(8) {
			case 0:
				b.h.Make(thread, kinds[r.next(3)], 0, r.next(9))
			case 1:
				b.h.Push(thread, ref)
			case 2:
				b.h.Pop(thread)
			case 3, 4:
				b.h.Put(thread, r.next(40), r.next(9), ref)
			case 5:
				b.h.Load(thread, ref, r.next(9))
			case 6:
				b.h.Begin()
				b.h.Answer(thread)
			default:
				b.h.Step()
			}
		}
		b.h.Begin()
		steps := 0
		for under := true; under && steps < 10000; steps++ {
			under, _ = b.h.Step()
			b.h.Answer(steps % threads)
		}
		if steps == 10000 {
			t.Fatal("a cycle does not end")
		}
	}
}
