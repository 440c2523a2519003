package heap_test

import (
	"math"
	"slices"
	"testing"

	"gneiss/api"
	"gneiss/heap"
)

const (
	agents    = 3
	maxFields = 64
)

var (
	noAgents = []int{math.MinInt, -1 << 32, -1, agents, agents + 1, api.MaxAgents, 1 << 32, math.MaxInt}
	noKinds  = []int{math.MinInt, -1, api.CellNone, api.CellWeak + 1, 6, 1<<32 + api.CellInts, math.MaxInt}
	edges    = []int{math.MinInt, math.MinInt + 1, -1 << 32, -1, 1 << 32, 1<<32 + 1, math.MaxInt - 16, math.MaxInt - 15, math.MaxInt}
	kinds    = []int{api.CellObject, api.CellInts, api.CellRefs, api.CellWeak}
)

// row is a fixed row of numbers.
type row uint64

func (r *row) next(below int) int {
	*r = *r*6364136223846793005 + 1442695040888963407
	return int(uint64(*r) >> 33 % uint64(below))
}

// isSize tells whether a cell of that kind may have n words.
func isSize(kind, n int) bool {
	switch kind {
	case api.CellObject:
		return n >= 0 && n <= maxFields
	case api.CellWeak:
		return n == 1
	}
	return n >= 0 && n <= api.MaxArray
}

// stepsMost is how many steps a Load or a Put of a cell may do.
func stepsMost(c api.Cell) int {
	if c.Kind == api.CellObject {
		return 12 + c.Size/4
	}
	return 12
}

// held is what a cell must be.
type held struct {
	is    api.Cell
	words []int
}

// both is a heap, and what it must hold.
type both struct {
	t     *testing.T
	h     *heap.Heap
	whole int
	room  int
	held  map[int]held
}

func bothOf(t *testing.T, words int) *both {
	t.Helper()
	h, code := heap.New(words, agents)
	if h == nil || code != api.OK {
		t.Fatalf("New(%d, %d) = %v, %d", words, agents, h, code)
	}
	b := &both{t: t, h: h, whole: h.Room(), room: h.Room(), held: map[int]held{}}
	if 4*b.whole < words {
		t.Fatalf("the room of %d words is %d", words, b.whole)
	}
	b.wantSteps(make([]int, agents))
	b.wantSame()
	return b
}

func (b *both) steps() []int {
	all := make([]int, agents)
	for agent := range all {
		all[agent] = b.h.Steps(agent)
	}
	return all
}

func (b *both) wantSteps(want []int) {
	b.t.Helper()
	if got := b.steps(); !slices.Equal(got, want) {
		b.t.Fatalf("the agents' steps are %v; want %v", got, want)
	}
}

// wantFewSteps tells that from before on the agent alone has done steps, at least one and at most so many.
func (b *both) wantFewSteps(before []int, agent, most int) {
	b.t.Helper()
	done := b.h.Steps(agent) - before[agent]
	if done < 1 || done > most {
		b.t.Fatalf("agent %d has done %d steps; it may do %d", agent, done, most)
	}
	want := slices.Clone(before)
	want[agent] += done
	b.wantSteps(want)
}

// make makes a cell if there is room for it; it is 0 if not.
func (b *both) make(agent, kind, n int) int {
	b.t.Helper()
	if n+16 > b.room {
		b.wantNoMake(agent, kind, 5, n, api.ErrHeapFull)
		return 0
	}
	before, class := b.steps(), 100*kind+n
	ref, code := b.h.Make(agent, kind, class, n)
	if _, was := b.held[ref]; was || ref < 1 || code != api.OK {
		b.t.Fatalf("room is %d: Make(%d, %d, %d, %d) = %d, %d", b.room, agent, kind, class, n, ref, code)
	}
	b.wantFewSteps(before, agent, math.MaxInt)
	b.room -= n + 16
	b.held[ref] = held{is: api.Cell{Kind: kind, Class: class, Size: n}, words: make([]int, n)}
	if got := b.h.Room(); got != b.room {
		b.t.Fatalf("Room() = %d; want %d", got, b.room)
	}
	return ref
}

// wantNoMake tells that Make is refused, and that nothing of it can be told.
func (b *both) wantNoMake(agent, kind, class, n int, want api.Errno) {
	b.t.Helper()
	before, refs := b.steps(), b.h.Refs()
	if ref, code := b.h.Make(agent, kind, class, n); ref != 0 || code != want {
		b.t.Fatalf("room is %d: Make(%d, %d, %d, %d) = %d, %d; want 0, %d", b.room, agent, kind, class, n, ref, code, want)
	}
	b.wantSteps(before)
	if got := b.h.Refs(); !slices.Equal(got, refs) || b.h.Room() != b.room {
		b.t.Fatalf("a Make that was refused made %v of %v; Room() = %d, want %d", got, refs, b.h.Room(), b.room)
	}
}

func (b *both) put(agent, ref, i, v int) {
	b.t.Helper()
	before := b.steps()
	if code := b.h.Put(agent, ref, i, v); code != api.OK {
		b.t.Fatalf("Put(%d, %d, %d, %d) = %d", agent, ref, i, v, code)
	}
	b.held[ref].words[i] = v
	b.wantFewSteps(before, agent, stepsMost(b.held[ref].is))
}

func (b *both) load(agent, ref, i int) {
	b.t.Helper()
	before, want := b.steps(), b.held[ref].words[i]
	if v, code := b.h.Load(agent, ref, i); v != want || code != api.OK {
		b.t.Fatalf("Load(%d, %d, %d) = %d, %d; want %d, OK", agent, ref, i, v, code, want)
	}
	b.wantFewSteps(before, agent, stepsMost(b.held[ref].is))
}

// write puts something else into each word of the cell ref.
func (b *both) write(agent, ref, from int) {
	b.t.Helper()
	for i := range b.held[ref].words {
		b.put(agent, ref, i, from-i)
	}
}

// wantNoWord tells that Load and Put are refused, without a step.
func (b *both) wantNoWord(agent, ref, i int, want api.Errno) {
	b.t.Helper()
	before := b.steps()
	if v, code := b.h.Load(agent, ref, i); v != 0 || code != want {
		b.t.Fatalf("Load(%d, %d, %d) = %d, %d; want 0, %d", agent, ref, i, v, code, want)
	}
	if code := b.h.Put(agent, ref, i, 99); code != want {
		b.t.Fatalf("Put(%d, %d, %d, 99) = %d; want %d", agent, ref, i, code, want)
	}
	b.wantSteps(before)
}

func (b *both) free(agent, ref int) {
	b.t.Helper()
	if code := b.h.Free(agent, ref); code != api.OK {
		b.t.Fatalf("Free(%d, %d) = %d", agent, ref, code)
	}
	b.room += b.held[ref].is.Size + 16
	delete(b.held, ref)
	b.wantNone(ref)
}

func (b *both) wantNoFree(agent, ref int) {
	b.t.Helper()
	before := b.steps()
	if code := b.h.Free(agent, ref); code != api.ErrHeapRef {
		b.t.Fatalf("Free(%d, %d) = %d; want ErrHeapRef", agent, ref, code)
	}
	b.wantSteps(before)
	if got := b.h.Room(); got != b.room {
		b.t.Fatalf("Room() = %d; want %d", got, b.room)
	}
}

// wantNone tells that there is no cell ref.
func (b *both) wantNone(ref int) {
	b.t.Helper()
	if c, code := b.h.Cell(ref); c != (api.Cell{}) || code != api.ErrHeapRef {
		b.t.Fatalf("Cell(%d) = %v, %d; want nothing, ErrHeapRef", ref, c, code)
	}
	for _, i := range []int{-1, 0, math.MaxInt} {
		b.wantNoWord(0, ref, i, api.ErrHeapRef)
	}
	b.wantNoFree(0, ref)
}

// refs is the cells that must be there, rising.
func (b *both) refs() []int {
	var refs []int
	for ref := range b.held {
		refs = append(refs, ref)
	}
	slices.Sort(refs)
	return refs
}

// wantKnown tells that all cells are there that must be, and how much room is left; by no step.
func (b *both) wantKnown() {
	b.t.Helper()
	before, refs := b.steps(), b.refs()
	if got := b.h.Refs(); !slices.Equal(got, refs) || b.h.Room() != b.room {
		b.t.Fatalf("Refs() = %v, Room() = %d; want %v, %d", got, b.h.Room(), refs, b.room)
	}
	for _, ref := range refs {
		if c, code := b.h.Cell(ref); c != b.held[ref].is || code != api.OK {
			b.t.Fatalf("Cell(%d) = %v, %d; want %v, OK", ref, c, code, b.held[ref].is)
		}
	}
	b.wantSteps(before)
}

// wantSame tells that all is there that must be, with its words.
func (b *both) wantSame() {
	b.t.Helper()
	b.wantKnown()
	for _, ref := range b.refs() {
		for i := range b.held[ref].words {
			b.load((ref+i)%agents, ref, i)
		}
	}
}

func TestP9_1NewRefuses(t *testing.T) {
	noWords := append([]int{-512, 0, 1, 256, 511, 65537, 65538, 1<<32 + 512}, edges...)
	noAgents := append([]int{-12, 0, 13, 14, 256 + 1, 1<<32 + 1}, edges...)
	for _, words := range noWords {
		for _, agents := range append([]int{1, 12}, noAgents...) {
			if h, code := heap.New(words, agents); h != nil || code != api.ErrHeapSize {
				t.Errorf("New(%d, %d) = %v, %d; want nil, ErrHeapSize", words, agents, h, code)
			}
		}
	}
	for _, agents := range noAgents {
		for _, words := range []int{512, 65536} {
			if h, code := heap.New(words, agents); h != nil || code != api.ErrHeapSize {
				t.Errorf("New(%d, %d) = %v, %d; want nil, ErrHeapSize", words, agents, h, code)
			}
		}
	}
}

func TestP9_1New(t *testing.T) {
	for count := 1; count <= api.MaxAgents; count++ {
		for _, words := range []int{512, 513, 514, 515, 516, 1000, 2047, 30000, 65535, 65536} {
			h, code := heap.New(words, count)
			if h == nil || code != api.OK {
				t.Fatalf("New(%d, %d) = %v, %d", words, count, h, code)
			}
			if 4*h.Room() < words || len(h.Refs()) != 0 {
				t.Errorf("New(%d, %d): Room() = %d, Refs() = %v", words, count, h.Room(), h.Refs())
			}
			for agent := -1; agent <= count; agent++ {
				steps := h.Steps(agent)
				ref, code := h.Make(agent, api.CellWeak, 0, 1)
				h.Free(agent, ref)
				if is := agent >= 0 && agent < count; steps != 0 || is != (code == api.OK) || is != (h.Steps(agent) > 0) {
					t.Errorf("%d agents: Make by %d: %d; Steps = %d, then %d", count, agent, code, steps, h.Steps(agent))
				}
			}
		}
	}
}

func TestP9_1HeapsAreApart(t *testing.T) {
	first, second := bothOf(t, 600), bothOf(t, 600)
	for _, kind := range kinds {
		for _, b := range []*both{first, second} {
			b.write(0, b.make(0, kind, 1), 10*kind+len(b.held))
		}
		second.write(1, second.make(1, kind, 1), -1)
	}
	first.wantSame()
	second.wantSame()
	first.free(0, first.refs()[1])
	first.wantSame()
	second.wantSame()
}

// Of several errors the first one is answered, be there room or not.
func TestP9_2MakeRefuses(t *testing.T) {
	b := bothOf(t, 512)
	for range 2 {
		for _, agent := range noAgents {
			for _, kind := range append(slices.Clone(kinds), noKinds...) {
				for _, n := range []int{-1, 0, 1, 1001} {
					b.wantNoMake(agent, kind, 0, n, api.ErrHeapRef)
					b.wantNoMake(agent, kind, -1, n, api.ErrHeapRef)
				}
			}
		}
		for _, kind := range noKinds {
			for _, n := range append([]int{0, 1, 1001}, edges...) {
				b.wantNoMake(0, kind, 0, n, api.ErrHeapKind)
				b.wantNoMake(1, kind, -1, n, api.ErrHeapKind)
			}
		}
		for _, kind := range kinds {
			for _, n := range append([]int{-1000, -17, -16, -1, 0, 1, 2, 64, 65, 1000, 1001}, edges...) {
				if !isSize(kind, n) {
					b.wantNoMake(2, kind, 0, n, api.ErrHeapSize)
				}
				for _, class := range []int{math.MinInt, -1 << 32, -1} {
					b.wantNoMake(2, kind, class, n, api.ErrHeapSize)
				}
			}
		}
		b.wantSame()
		if b.room > 0 {
			b.make(0, api.CellInts, b.room-16)
		}
	}
	for _, kind := range kinds {
		b.wantNoMake(0, kind, 0, 1, api.ErrHeapFull)
	}
	b.wantNoMake(0, api.CellInts, 0, 0, api.ErrHeapFull)
	b.wantNoMake(0, api.CellRefs, 0, 1000, api.ErrHeapFull)
	b.wantNoMake(0, api.CellObject, 0, 64, api.ErrHeapFull)
}

func TestP9_2EachSizeOfEachKind(t *testing.T) {
	b := bothOf(t, 8000)
	for _, kind := range kinds {
		for n := range api.MaxArray + 1 {
			if !isSize(kind, n) || n > 70 && n%31 != 0 && n < 990 {
				continue
			}
			for i := 0; n+16 > b.room; i++ {
				b.free(i%agents, b.refs()[0])
			}
			ref := b.make(n%agents, kind, n)
			for i := range n {
				b.load((n+1)%agents, ref, i)
			}
			b.write((n+2)%agents, ref, 5000+n)
			b.wantSame()
		}
	}
}

func TestP9_2ClassesAreAnyFromZeroOn(t *testing.T) {
	b := bothOf(t, 2000)
	for _, kind := range kinds {
		for _, class := range []int{0, 1, api.FirstClass, math.MaxInt32 + 1, 1 << 40, math.MaxInt} {
			ref, code := b.h.Make(0, kind, class, 1)
			want := api.Cell{Kind: kind, Class: class, Size: 1}
			if got, told := b.h.Cell(ref); code != api.OK || got != want || told != api.OK {
				t.Errorf("Make(0, %d, %d, 1) = %d, %d; Cell = %v, %d", kind, class, ref, code, got, told)
			}
		}
	}
}

func TestP9_2WordsAreAnyInts(t *testing.T) {
	b := bothOf(t, 2000)
	for _, kind := range kinds {
		ref := b.make(0, kind, 1)
		other := b.make(0, kind, 1)
		for _, v := range append([]int{0, 1, math.MinInt32 - 1, math.MaxInt32 + 1}, edges...) {
			b.put(1, ref, 0, v)
			b.load(2, ref, 0)
			b.load(2, other, 0)
		}
	}
	b.wantSame()
}

func TestP9_2WordsThatAreNone(t *testing.T) {
	b := bothOf(t, 8000)
	for _, kind := range kinds {
		for _, n := range []int{0, 1, 7, 8, 9, 64, 300} {
			if !isSize(kind, n) {
				continue
			}
			ref := b.make(0, kind, n)
			b.write(0, ref, 900)
			for _, i := range append([]int{n, n + 1, n + 8, 1000, 1001}, edges...) {
				b.wantNoWord(2, ref, i, api.ErrHeapBounds)
				for _, agent := range noAgents {
					b.wantNoWord(agent, ref, i, api.ErrHeapRef)
				}
			}
		}
	}
	b.wantSame()
}

func TestP9_2AgentsThatAreNone(t *testing.T) {
	b := bothOf(t, 1000)
	for _, kind := range kinds {
		ref := b.make(0, kind, 1)
		b.write(0, ref, 40+kind)
		for _, agent := range noAgents {
			b.wantNoWord(agent, ref, 0, api.ErrHeapRef)
			b.wantNoFree(agent, ref)
			if steps := b.h.Steps(agent); steps != 0 {
				t.Errorf("Steps(%d) = %d", agent, steps)
			}
		}
	}
	b.wantSame()
}

func TestP9_2CellsThatAreNone(t *testing.T) {
	b := bothOf(t, 2000)
	for range 3 {
		for _, kind := range kinds {
			b.write(0, b.make(0, kind, 1), 60+kind)
		}
	}
	for _, ref := range b.refs()[3:7] {
		b.free(0, ref)
		b.wantSame()
	}
	for ref := -3; ref < 40; ref++ {
		if _, is := b.held[ref]; !is {
			b.wantNone(ref)
		}
	}
	for _, ref := range b.refs() {
		for _, far := range []int{-ref, ref + 1<<32, ref - 1<<32, ref + 1<<61, math.MinInt + ref, math.MaxInt - ref} {
			b.wantNone(far)
		}
	}
	for _, ref := range edges {
		b.wantNone(ref)
	}
	b.wantSame()
}

// The cells' own words are what Steps counts: each access is at least one, and nothing else that is told is any.
func TestP9_2StepsOfTheGreatest(t *testing.T) {
	b := bothOf(t, api.MaxWords)
	for _, kind := range kinds {
		n := map[int]int{api.CellObject: maxFields, api.CellWeak: 1}[kind]
		if n == 0 {
			n = api.MaxArray
		}
		ref := b.make(0, kind, n)
		b.write(1, ref, -7)
		for i := range n {
			b.load(2, ref, i)
		}
	}
	b.wantSame()
}
