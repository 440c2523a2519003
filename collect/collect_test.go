package collect_test

import (
	"math"
	"slices"
	"testing"

	"gneiss/api"
	"gneiss/collect"
)

const (
	threads   = 3
	maxFields = 64
)

var (
	noThreads = []int{math.MinInt, -1 << 32, -1, threads, threads + 1, api.MaxThreads, api.MaxAgents, 1 << 32, math.MaxInt}
	kinds     = []int{api.CellObject, api.CellInts, api.CellRefs}
	wild      = []int{math.MinInt, -1 << 60, -2, -1, 999999, 1 << 32, 1<<32 + 1, 1 << 60, math.MaxInt}
)

// row is a fixed row of numbers.
type row uint64

func (r *row) next(below int) int {
	*r = *r*6364136223846793005 + 1442695040888963407
	return int(uint64(*r) >> 33 % uint64(below))
}

func isSize(kind, n int) bool {
	if kind == api.CellObject {
		return n >= 0 && n <= maxFields
	}
	return n >= 0 && n <= api.MaxArray
}

// held is what a cell must be.
type held struct {
	is    api.Cell
	words []int
}

// both is a heap, and what it must hold.
type both struct {
	t      *testing.T
	h      *collect.Heap
	words  int
	held   map[int]held
	roots  [threads][]int
	made   []int // since the last cycle began
	dead   []int // unreached ahead of the beginning of the cycle that is under way
	gone   []int // unreached ahead of the beginning of a cycle that is over
	cycles int
}

func bothOf(t *testing.T, words int) *both {
	t.Helper()
	h, code := collect.New(words, threads)
	if h == nil || code != api.OK {
		t.Fatalf("New(%d, %d) = %v, %d", words, threads, h, code)
	}
	b := &both{t: t, h: h, words: words, held: map[int]held{}}
	b.wantPhase(api.PhaseIdle)
	b.wantSame()
	return b
}

func (b *both) steps() []int {
	all := make([]int, threads)
	for thread := range all {
		all[thread] = b.h.Steps(thread)
	}
	return all
}

// wantSteps tells that from before on that thread alone has done steps, and at most so many.
func (b *both) wantSteps(before []int, thread, most int) {
	b.t.Helper()
	after := b.steps()
	for i := range after {
		if done := after[i] - before[i]; done < 0 || done > most || i != thread && done != 0 {
			b.t.Fatalf("thread %d's steps were %d and are %d; at most %d of thread %d", i, before[i], after[i], most, thread)
		}
	}
}

func (b *both) wantPhase(want int) {
	b.t.Helper()
	if got := b.h.Phase(); got != want {
		b.t.Fatalf("Phase() = %d; want %d", got, want)
	}
}

// reached is the cells that a root names, or a ref of a reached one, rising.
func (b *both) reached() []int {
	is := map[int]held{}
	var row []int
	see := func(ref int) {
		if _, was := is[ref]; !was && b.held[ref].is.Kind != api.CellNone {
			is[ref] = b.held[ref]
			row = append(row, ref)
		}
	}
	for _, refs := range b.roots {
		for _, ref := range refs {
			see(ref)
		}
	}
	for i := 0; i < len(row); i++ {
		if c := b.held[row[i]]; c.is.Kind != api.CellInts && c.is.Kind != api.CellWeak {
			for _, ref := range c.words {
				see(ref)
			}
		}
	}
	slices.Sort(row)
	return row
}

// charged is n and 16 for each cell that is there.
func (b *both) charged() int {
	sum := 0
	for _, ref := range b.h.Refs() {
		sum += b.held[ref].is.Size + 16
	}
	return sum
}

// make makes a cell, if there is room for it and its root; it is 0 if not.
func (b *both) make(thread, kind, n int) int {
	b.t.Helper()
	before, refs, charged, class := b.steps(), b.h.Refs(), b.charged(), 100*kind+n
	ref, code := b.h.Make(thread, kind, class, n)
	want := api.OK
	switch {
	case len(b.roots[thread]) == api.MaxRoots:
		want = api.ErrCollectRoots
	case 4*(charged+n+16) > b.words:
		want = api.ErrCollectFull
	}
	if code != want || (ref == 0) != (want != api.OK) || slices.Contains(refs, ref) {
		b.t.Fatalf("%d of %d: Make(%d, %d, %d, %d) = %d, %d; want %d", charged, b.words, thread, kind, class, n, ref, code, want)
	}
	if ref == 0 {
		b.wantSteps(before, thread, 0)
		return 0
	}
	b.wantSteps(before, thread, math.MaxInt)
	b.held[ref] = held{is: api.Cell{Kind: kind, Class: class, Size: n}, words: make([]int, n)}
	b.roots[thread] = append(b.roots[thread], ref)
	b.made = append(b.made, ref)
	b.wantThere()
	return ref
}

func (b *both) wantNoMake(thread, kind, class, n int, want api.Errno) {
	b.t.Helper()
	before, refs := b.steps(), b.h.Refs()
	if ref, code := b.h.Make(thread, kind, class, n); ref != 0 || code != want {
		b.t.Fatalf("Make(%d, %d, %d, %d) = %d, %d; want 0, %d", thread, kind, class, n, ref, code, want)
	}
	b.wantSteps(before, 0, 0)
	if got := b.h.Refs(); !slices.Equal(got, refs) {
		b.t.Fatalf("a Make that was refused made %v of %v", got, refs)
	}
}

func (b *both) push(thread, ref int) {
	b.t.Helper()
	want := api.OK
	if len(b.roots[thread]) == api.MaxRoots {
		want = api.ErrCollectRoots
	}
	if code := b.h.Push(thread, ref); code != want {
		b.t.Fatalf("Push(%d, %d) = %d; want %d", thread, ref, code, want)
	}
	if want == api.OK {
		b.roots[thread] = append(b.roots[thread], ref)
	}
}

func (b *both) pop(thread int) int {
	b.t.Helper()
	want, code := 0, api.ErrCollectRoots
	if last := len(b.roots[thread]) - 1; last >= 0 {
		want, code = b.roots[thread][last], api.OK
		b.roots[thread] = b.roots[thread][:last]
	}
	if ref, got := b.h.Pop(thread); ref != want || got != code {
		b.t.Fatalf("Pop(%d) = %d, %d; want %d, %d", thread, ref, got, want, code)
	}
	return want
}

func (b *both) put(thread, ref, i, v int) {
	b.t.Helper()
	before := b.steps()
	if code := b.h.Put(thread, ref, i, v); code != api.OK {
		b.t.Fatalf("Put(%d, %d, %d, %d) = %d", thread, ref, i, v, code)
	}
	b.wantSteps(before, thread, 24+len(b.held[ref].words)/4)
	b.held[ref].words[i] = v
}

func (b *both) load(thread, ref, i int) {
	b.t.Helper()
	before, want := b.steps(), b.held[ref].words[i]
	if v, code := b.h.Load(thread, ref, i); v != want || code != api.OK {
		b.t.Fatalf("Load(%d, %d, %d) = %d, %d; want %d, OK", thread, ref, i, v, code, want)
	}
	b.wantSteps(before, thread, 24+len(b.held[ref].words)/4)
}

func (b *both) wantNoWord(thread, ref, i int, want api.Errno) {
	b.t.Helper()
	before := b.steps()
	if v, code := b.h.Load(thread, ref, i); v != 0 || code != want {
		b.t.Fatalf("Load(%d, %d, %d) = %d, %d; want 0, %d", thread, ref, i, v, code, want)
	}
	if code := b.h.Put(thread, ref, i, 99); code != want {
		b.t.Fatalf("Put(%d, %d, %d, 99) = %d; want %d", thread, ref, i, code, want)
	}
	b.wantSteps(before, 0, 0)
}

// begin begins a cycle, if none is under way.
func (b *both) begin() {
	b.t.Helper()
	if b.h.Phase() == api.PhaseIdle {
		reached := b.reached()
		b.dead = slices.DeleteFunc(b.h.Refs(), func(ref int) bool { return slices.Contains(reached, ref) })
		b.made = nil
	}
	if code := b.h.Begin(); code != api.OK || b.h.Phase() == api.PhaseIdle {
		b.t.Fatalf("Begin() = %d, and Phase() = %d", code, b.h.Phase())
	}
}

// step is whether a cycle is under way still.
func (b *both) step() bool {
	b.t.Helper()
	before, was, count := b.steps(), b.h.Phase(), len(b.h.Refs())
	under, code := b.h.Step()
	if code != api.OK || under != (b.h.Phase() != api.PhaseIdle) || under && was == api.PhaseIdle {
		b.t.Fatalf("Phase() was %d: Step() = %v, %d, and Phase() is %d", was, under, code, b.h.Phase())
	}
	b.wantSteps(before, 0, 0)
	if was != api.PhaseIdle && !under {
		b.cycles++
		b.gone = append(b.gone, b.dead...)
		b.dead = nil
	}
	if b.h.Phase() != was || len(b.h.Refs()) != count {
		b.wantThere()
	}
	return under
}

func (b *both) answer(thread int) {
	b.t.Helper()
	before, was := b.steps(), b.h.Phase()
	if code := b.h.Answer(thread); code != api.OK || b.h.Phase() != was {
		b.t.Fatalf("Phase() was %d: Answer(%d) = %d, and it is %d", was, thread, code, b.h.Phase())
	}
	b.wantSteps(before, thread, 16+len(b.roots[thread]))
}

func (b *both) answerAll() {
	b.t.Helper()
	for thread := range threads {
		b.answer(thread)
	}
}

// end ends the cycle that is under way, with answers behind each step, and is how many steps that took.
func (b *both) end() int {
	b.t.Helper()
	steps := 1
	for ; b.step(); steps++ {
		b.answerAll()
		if steps > 1000000 {
			b.t.Fatal("the cycle does not end")
		}
	}
	return steps
}

// cycle is a whole cycle, and how many steps it took.
func (b *both) cycle() int {
	b.t.Helper()
	b.begin()
	return b.end()
}

// wantThere tells that the cells are there that must be, and none that may not.
func (b *both) wantThere() {
	b.t.Helper()
	refs := b.h.Refs()
	if !slices.IsSorted(refs) {
		b.t.Fatalf("Refs() = %v", refs)
	}
	for _, ref := range append(b.reached(), b.made...) {
		if _, there := slices.BinarySearch(refs, ref); !there {
			b.t.Fatalf("%d is not among %v", ref, refs)
		}
	}
	for _, ref := range b.gone {
		if _, there := slices.BinarySearch(refs, ref); there {
			b.t.Fatalf("%d is among %v", ref, refs)
		}
	}
	if got := b.h.Cycles(); got != b.cycles {
		b.t.Fatalf("Cycles() = %d; want %d", got, b.cycles)
	}
}

// wantSame tells that all that must be there is, with its words.
func (b *both) wantSame() {
	b.t.Helper()
	b.wantThere()
	for _, ref := range b.reached() {
		if c, code := b.h.Cell(ref); c != b.held[ref].is || code != api.OK {
			b.t.Fatalf("Cell(%d) = %v, %d; want %v, OK", ref, c, code, b.held[ref].is)
		}
		for i := range b.held[ref].words {
			b.load((ref+i)%threads, ref, i)
		}
	}
}

// wantRefs tells that these cells are there, and no others.
func (b *both) wantRefs(want ...int) {
	b.t.Helper()
	slices.Sort(want)
	if got := b.h.Refs(); !slices.Equal(got, want) {
		b.t.Fatalf("Refs() = %v; want %v", got, want)
	}
}

func (b *both) wantNone(ref int) {
	b.t.Helper()
	if c, code := b.h.Cell(ref); c != (api.Cell{}) || code != api.ErrCollectRef {
		b.t.Fatalf("Cell(%d) = %v, %d; want nothing, ErrCollectRef", ref, c, code)
	}
	for _, i := range []int{math.MinInt, -1, 0, math.MaxInt} {
		b.wantNoWord(0, ref, i, api.ErrCollectRef)
	}
}

func TestP12_1NewRefuses(t *testing.T) {
	for _, words := range []int{math.MinInt, -1024, -1, 0, 1, 512, 1023, 65537, 1 << 32, 1<<32 + 1024, math.MaxInt} {
		if h, code := collect.New(words, 1); h != nil || code != api.ErrCollectSize {
			t.Errorf("New(%d, 1) = %v, %d; want nil, ErrCollectSize", words, h, code)
		}
	}
	for _, count := range []int{math.MinInt, -1, 0, api.MaxThreads + 1, api.MaxAgents, 1 << 32, 1<<32 + 1, math.MaxInt} {
		if h, code := collect.New(1024, count); h != nil || code != api.ErrCollectSize {
			t.Errorf("New(1024, %d) = %v, %d; want nil, ErrCollectSize", count, h, code)
		}
	}
}

func TestP12_1NewTakes(t *testing.T) {
	for _, words := range []int{1024, 1025, 2000, 65535, 65536} {
		for count := 1; count <= api.MaxThreads; count++ {
			h, code := collect.New(words, count)
			if h == nil || code != api.OK || h.Phase() != api.PhaseIdle || h.Cycles() != 0 || len(h.Refs()) != 0 {
				t.Fatalf("New(%d, %d) = %v, %d", words, count, h, code)
			}
			for thread := range count {
				if ref, code := h.Make(thread, api.CellRefs, 0, 1); ref < 1 || code != api.OK {
					t.Fatalf("Make(%d ..) = %d, %d", thread, ref, code)
				}
			}
			if ref, code := h.Make(count, api.CellRefs, 0, 1); ref != 0 || code != api.ErrCollectThread || h.Steps(count) != 0 {
				t.Fatalf("Make(%d ..) = %d, %d; want 0, ErrCollectThread", count, ref, code)
			}
		}
	}
}

// The collector is no thread, whatever it has done.
func TestP12_1NoSuchThread(t *testing.T) {
	b := bothOf(t, 1024)
	ref := b.make(0, api.CellRefs, 2)
	b.cycle()
	for range 2 {
		for _, thread := range noThreads {
			b.wantNoMake(thread, 9, -1, -1, api.ErrCollectThread)
			b.wantNoMake(thread, api.CellRefs, 0, 1, api.ErrCollectThread)
			b.wantNoWord(thread, 0, 9, api.ErrCollectThread)
			b.wantNoWord(thread, ref, 0, api.ErrCollectThread)
			if code := b.h.Push(thread, 0); code != api.ErrCollectThread {
				t.Errorf("Push(%d, 0) = %d", thread, code)
			}
			if ref, code := b.h.Pop(thread); ref != 0 || code != api.ErrCollectThread {
				t.Errorf("Pop(%d) = %d, %d", thread, ref, code)
			}
			if code := b.h.Answer(thread); code != api.ErrCollectThread {
				t.Errorf("Answer(%d) = %d", thread, code)
			}
			if steps := b.h.Steps(thread); steps != 0 {
				t.Errorf("Steps(%d) = %d", thread, steps)
			}
		}
		b.begin()
	}
	b.wantSame()
}

func TestP12_2MakeRefuses(t *testing.T) {
	b := bothOf(t, 1024)
	for range 2 {
		for _, kind := range []int{math.MinInt, -1, api.CellNone, api.CellWeak, api.CellWeak + 1, 1<<32 + api.CellInts, math.MaxInt} {
			for _, n := range []int{-1, 0, 1, 1001} {
				b.wantNoMake(0, kind, 0, n, api.ErrCollectBounds)
			}
		}
		for _, kind := range kinds {
			for _, n := range []int{math.MinInt, -1 << 32, -1, 1001, 1 << 32, math.MaxInt - 16, math.MaxInt - 15, math.MaxInt} {
				b.wantNoMake(1, kind, 0, n, api.ErrCollectBounds)
			}
			for _, class := range []int{math.MinInt, -1} {
				b.wantNoMake(2, kind, class, 1, api.ErrCollectBounds)
			}
		}
		b.wantNoMake(0, api.CellObject, 0, 65, api.ErrCollectBounds)
		b.begin()
	}
}

// What is wrong with the cell goes ahead of the roots, and these go ahead of the room.
func TestP12_2MakeRefusesInThisRow(t *testing.T) {
	b := bothOf(t, 1024)
	for b.make(0, api.CellObject, 64) != 0 {
	}
	b.wantNoMake(0, api.CellInts, 0, 1001, api.ErrCollectBounds)
	b.wantNoMake(0, api.CellInts, 0, 1000, api.ErrCollectFull)
	for len(b.roots[0]) < api.MaxRoots {
		b.push(0, 1)
	}
	b.wantNoMake(0, api.CellInts, 0, 1001, api.ErrCollectBounds)
	b.wantNoMake(0, api.CellInts, -1, 1000, api.ErrCollectBounds)
	b.wantNoMake(0, api.CellInts, 0, 1000, api.ErrCollectRoots)
	b.wantNoMake(0, api.CellObject, 0, 0, api.ErrCollectRoots)
	b.wantNoMake(1, api.CellInts, 0, 1000, api.ErrCollectFull)
	b.wantSame()
}

func TestP12_2MakeKeepsKindClassAndSize(t *testing.T) {
	h, _ := collect.New(api.MaxWords, 1)
	for _, class := range []int{0, 1, 11, 1 << 40, math.MaxInt} {
		for _, kind := range kinds {
			for _, n := range []int{0, 1, 63, 64, 65, 1000} {
				if !isSize(kind, n) {
					continue
				}
				ref, code := h.Make(0, kind, class, n)
				if c, _ := h.Cell(ref); c != (api.Cell{Kind: kind, Class: class, Size: n}) || code != api.OK {
					t.Fatalf("Make(0, %d, %d, %d) = %d, %d; Cell = %v", kind, class, n, ref, code, c)
				}
				if root, _ := h.Pop(0); root != ref {
					t.Fatalf("%d was made; Pop(0) = %d", ref, root)
				}
			}
		}
		h.Begin()
		for under := true; under; under, _ = h.Step() {
			h.Answer(0)
		}
	}
}

// fill makes cells of that kind and size for as long as there is room, and then one that takes what is left.
func (b *both) fill(kind, n int) {
	b.t.Helper()
	for b.make(0, kind, n) != 0 || len(b.roots[0]) == api.MaxRoots {
		b.pop(0)
	}
	left := b.words/4 - b.charged() - 16
	if !isSize(kind, left) {
		return
	}
	if isSize(kind, left+1) && b.make(1, kind, left+1) != 0 {
		b.t.Fatalf("there is room for %d", left+1)
	}
	if b.make(1, kind, left) == 0 {
		b.t.Fatalf("there is no room for %d", left)
	}
	b.pop(1)
}

// The room is a quarter of the words and not one more, whatever is there, again and again.
func TestP12_2FullAtAQuarter(t *testing.T) {
	for _, words := range []int{1024, 1025, 1026, 1027, 1028, 3333} {
		for _, kind := range kinds {
			for _, n := range []int{0, 1, 7, 30, 58, 64, 100} {
				if !isSize(kind, n) {
					continue
				}
				b := bothOf(t, words)
				for range 3 {
					b.fill(kind, n)
					b.cycle()
					b.wantRefs()
				}
			}
		}
	}
}

func TestP12_2FullOfOneGreatArray(t *testing.T) {
	for words := 1024; words < 4200; words += 41 {
		b := bothOf(t, words)
		for range 3 {
			n := min(words/4-16, api.MaxArray)
			if n < api.MaxArray && b.make(0, api.CellRefs, n+1) != 0 {
				t.Fatalf("%d words: %d fit", words, n+1)
			}
			if b.make(0, api.CellRefs, n) == 0 {
				t.Fatalf("%d words: %d do not fit", words, n)
			}
			b.pop(0)
			b.cycle()
		}
	}
}

func TestP12_2TheGreatestHeap(t *testing.T) {
	for _, kind := range kinds {
		b := bothOf(t, api.MaxWords)
		for range 3 {
			b.fill(kind, 0)
			b.cycle()
			b.fill(kind, 50)
			b.cycle()
			b.wantRefs()
		}
	}
}

func TestP12_2Roots(t *testing.T) {
	b := bothOf(t, 4096)
	for thread := range threads {
		b.pop(thread)
		first := b.make(thread, api.CellObject, 1)
		for i := range api.MaxRoots - 1 {
			b.push(thread, first*(i%2))
		}
		b.push(thread, first)
		b.push(thread, 0)
		b.make(thread, api.CellInts, 1)
		b.pop(thread)
		b.make(thread, api.CellInts, 1)
		b.push(thread, first)
	}
	b.cycle()
	for range api.MaxRoots + 2 {
		for thread := range threads {
			b.pop(thread)
		}
	}
	b.cycle()
	b.wantRefs()
}

func TestP12_2NoSuchCellOrWord(t *testing.T) {
	b := bothOf(t, 8192)
	b.wantNone(0)
	dead := b.make(0, api.CellObject, 3)
	b.pop(0)
	b.cycle()
	for range 2 {
		for _, ref := range append([]int{0, dead}, wild...) {
			b.wantNone(ref)
		}
		for _, kind := range kinds {
			for _, n := range []int{0, 1, 8, 64} {
				ref := b.make(0, kind, n)
				for _, i := range []int{math.MinInt, -1 << 32, -1, n, n + 1, 1 << 32, math.MaxInt} {
					b.wantNoWord(1, ref, i, api.ErrCollectBounds)
				}
				b.pop(0)
			}
		}
		b.begin()
	}
}

func TestP12_2IntsAreAnyInts(t *testing.T) {
	b := bothOf(t, 1024)
	ref := b.make(0, api.CellInts, len(wild))
	for range 2 {
		for i, v := range wild {
			b.put(1, ref, i, v)
		}
		b.wantSame()
		b.begin()
	}
	b.end()
	b.wantSame()
}

// Whatever the collector is at, Load and Put take few steps.
func TestP12_2FewSteps(t *testing.T) {
	for _, kind := range kinds {
		for n := range maxFields + 1 {
			b := bothOf(t, 2048)
			ref := b.make(0, kind, n)
			values := []int{ref, 0, ref}
			all := func() {
				for i := range n {
					b.put((i+1)%threads, ref, i, values[i%3])
					b.load(i%threads, ref, i)
					b.put(i%threads, ref, i, values[i%2])
				}
			}
			all()
			b.begin()
			for all(); b.step(); all() {
				b.answerAll()
			}
		}
	}
	b := bothOf(t, api.MaxWords)
	ref := b.make(0, api.CellRefs, api.MaxArray)
	b.begin()
	for i := range api.MaxArray {
		b.put(0, ref, i, ref)
		b.step()
		b.answer(i % threads)
		b.put(1, ref, i, 0)
	}
}
