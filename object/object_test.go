package object_test

import (
	"math"
	"slices"
	"testing"

	"gneiss/api"
	"gneiss/arena"
	"gneiss/frag"
	"gneiss/object"
)

const (
	most   = 64
	agents = 3
)

var (
	noAgents = []int{math.MinInt, -1 << 32, -1, agents, agents + 1, api.MaxAgents, 1 << 32, math.MaxInt}
	noSizes  = []int{math.MinInt, -1 << 32, -6, -5, -1, most + 1, most + 2, 1 << 32, math.MaxInt - 5, math.MaxInt}
	values   = []int{math.MinInt, math.MinInt32 - 1, -1, 0, 1, 2, math.MaxInt32 + 1, math.MaxInt}
)

// row is a fixed row of numbers.
type row uint64

func (r *row) next(below int) int {
	*r = *r*6364136223846793005 + 1442695040888963407
	return int(uint64(*r) >> 33 % uint64(below))
}

// need is how many fragments must be free for an object of n fields, and how many it takes at most.
func need(n int) int {
	return 1 + (n+5)/6
}

// stepsMost is how many steps a Load or a Put of an object of n fields may do.
func stepsMost(n int) int {
	return 3 + (n+5)/6
}

// upTo is the numbers from 0 to n.
func upTo(n int) []int {
	all := make([]int, n+1)
	for i := range all {
		all[i] = i
	}
	return all
}

// both is a store, and what it must hold.
type both struct {
	t     *testing.T
	a     *arena.Arena
	p     *frag.Pool
	s     *object.Store
	count int
	held  map[int][]int
}

// bothIn is an empty store in a pool of so many fragments from base on.
func bothIn(t *testing.T, a *arena.Arena, base, count int) *both {
	t.Helper()
	p, code := frag.New(a, base, count)
	if code != api.OK {
		t.Fatalf("frag.New(%d, %d) = %d", base, count, code)
	}
	b := &both{t: t, a: a, p: p, count: count, held: map[int][]int{}}
	before := b.steps()
	b.s, code = object.New(p)
	if b.s == nil || code != api.OK {
		t.Fatalf("New = %v, %d", b.s, code)
	}
	b.wantSteps(before)
	b.wantSame()
	return b
}

// bothOf is a store in an arena whose words were something else.
func bothOf(t *testing.T, count int) *both {
	t.Helper()
	a, code := arena.New(14*count+64, agents)
	if code != api.OK {
		t.Fatalf("arena.New = %d", code)
	}
	for at := range a.Words() {
		a.Store(0, at, -at-7)
	}
	return bothIn(t, a, 0, count)
}

func (b *both) steps() []int {
	all := make([]int, agents)
	for agent := range all {
		all[agent] = b.a.Steps(agent)
	}
	return all
}

func (b *both) wantSteps(want []int) {
	b.t.Helper()
	if got := b.steps(); !slices.Equal(got, want) {
		b.t.Fatalf("the agents' steps are %v; want %v", got, want)
	}
}

// wantFewSteps tells that from before on the agent alone has done steps, at least one and at most so many.
func (b *both) wantFewSteps(before []int, agent, most int) {
	b.t.Helper()
	done := b.a.Steps(agent) - before[agent]
	if done < 1 || done > most {
		b.t.Fatalf("agent %d has done %d steps; it may do %d", agent, done, most)
	}
	want := slices.Clone(before)
	want[agent] += done
	b.wantSteps(want)
}

func (b *both) free() int {
	return b.count - len(b.p.Used())
}

// make makes an object of n fields if so many fragments are free; it is 0 if not.
func (b *both) make(agent, n int) int {
	b.t.Helper()
	free, before := b.free(), b.steps()
	if free < need(n) {
		b.wantNoMake(agent, n, api.ErrObjectNone)
		return 0
	}
	ref, code := b.s.Make(agent, n)
	if _, was := b.held[ref]; was || ref < 1 || code != api.OK {
		b.t.Fatalf("Make(%d, %d) = %d, %d with %d free", agent, n, ref, code, free)
	}
	if took := free - b.free(); took < 1 || took > need(n) {
		b.t.Fatalf("an object of %d fields took %d fragments", n, took)
	}
	b.wantFewSteps(before, agent, math.MaxInt)
	b.held[ref] = make([]int, n)
	return ref
}

// wantNoMake tells that Make is refused, and that nothing of it can be told.
func (b *both) wantNoMake(agent, n int, want api.Errno) {
	b.t.Helper()
	used, refs, before := b.p.Used(), b.s.Refs(), b.steps()
	if ref, code := b.s.Make(agent, n); ref != 0 || code != want {
		b.t.Fatalf("Make(%d, %d) = %d, %d; want 0, %d", agent, n, ref, code, want)
	}
	b.wantSteps(before)
	if !slices.Equal(b.p.Used(), used) || !slices.Equal(b.s.Refs(), refs) {
		b.t.Fatalf("a Make that was refused made %v, %v of %v, %v", b.p.Used(), b.s.Refs(), used, refs)
	}
}

func (b *both) put(agent, ref, i, v int) {
	b.t.Helper()
	before := b.steps()
	if code := b.s.Put(agent, ref, i, v); code != api.OK {
		b.t.Fatalf("Put(%d, %d, %d, %d) = %d", agent, ref, i, v, code)
	}
	b.held[ref][i] = v
	b.wantFewSteps(before, agent, stepsMost(len(b.held[ref])))
}

func (b *both) load(agent, ref, i int) {
	b.t.Helper()
	before := b.steps()
	if v, code := b.s.Load(agent, ref, i); v != b.held[ref][i] || code != api.OK {
		b.t.Fatalf("Load(%d, %d, %d) = %d, %d; want %d, OK", agent, ref, i, v, code, b.held[ref][i])
	}
	b.wantFewSteps(before, agent, stepsMost(len(b.held[ref])))
}

// wantNoField tells that Load and Put are refused, without a step.
func (b *both) wantNoField(agent, ref, i int, want api.Errno) {
	b.t.Helper()
	before := b.steps()
	if v, code := b.s.Load(agent, ref, i); v != 0 || code != want {
		b.t.Fatalf("Load(%d, %d, %d) = %d, %d; want 0, %d", agent, ref, i, v, code, want)
	}
	if code := b.s.Put(agent, ref, i, 99); code != want {
		b.t.Fatalf("Put(%d, %d, %d, 99) = %d; want %d", agent, ref, i, code, want)
	}
	b.wantSteps(before)
}

func (b *both) drop(agent, ref int) {
	b.t.Helper()
	free := b.free()
	if code := b.s.Free(agent, ref); code != api.OK {
		b.t.Fatalf("Free(%d, %d) = %d", agent, ref, code)
	}
	if gave := b.free() - free; gave < 1 || gave > need(len(b.held[ref])) {
		b.t.Fatalf("an object of %d fields gave %d fragments back", len(b.held[ref]), gave)
	}
	delete(b.held, ref)
	b.wantNone(ref)
}

func (b *both) wantNoFree(agent, ref int) {
	b.t.Helper()
	used, before := b.p.Used(), b.steps()
	if code := b.s.Free(agent, ref); code != api.ErrObjectRef {
		b.t.Fatalf("Free(%d, %d) = %d; want ErrObjectRef", agent, ref, code)
	}
	b.wantSteps(before)
	if !slices.Equal(b.p.Used(), used) {
		b.t.Fatalf("a Free that was refused made %v of %v", b.p.Used(), used)
	}
}

// wantNone tells that there is no object ref.
func (b *both) wantNone(ref int) {
	b.t.Helper()
	if n, code := b.s.Size(ref); n != 0 || code != api.ErrObjectRef {
		b.t.Fatalf("Size(%d) = %d, %d; want 0, ErrObjectRef", ref, n, code)
	}
	for _, i := range []int{-1, 0, most, math.MaxInt} {
		b.wantNoField(0, ref, i, api.ErrObjectRef)
	}
	b.wantNoFree(0, ref)
}

// refs is the objects that must be there, rising.
func (b *both) refs() []int {
	var refs []int
	for ref := range b.held {
		refs = append(refs, ref)
	}
	slices.Sort(refs)
	return refs
}

// wantSame tells that all objects are there that must be, with their sizes and fields; by no step but those of Load.
func (b *both) wantSame() {
	b.t.Helper()
	before, refs := b.steps(), b.refs()
	if got := b.s.Refs(); !slices.Equal(got, refs) {
		b.t.Fatalf("Refs() = %v; want %v", got, refs)
	}
	for _, ref := range refs {
		if n, code := b.s.Size(ref); n != len(b.held[ref]) || code != api.OK {
			b.t.Fatalf("Size(%d) = %d, %d; want %d, OK", ref, n, code, len(b.held[ref]))
		}
	}
	b.wantSteps(before)
	for _, ref := range refs {
		for i := range b.held[ref] {
			b.load((ref+i)%agents, ref, i)
		}
	}
}

func TestP8_1New(t *testing.T) {
	if s, code := object.New(nil); s != nil || code != api.ErrNil {
		t.Errorf("New(nil) = %v, %d; want nil, ErrNil", s, code)
	}
	for _, count := range []int{1, 2, 12, 1000, 1001, 2000} {
		b := bothOf(t, count)
		if used := b.p.Used(); len(used) != 0 {
			t.Errorf("of %d fragments, %v are in use", count, used)
		}
		for _, ref := range []int{math.MinInt, -1, 0, 1, 2, count, count + 1, math.MaxInt} {
			b.wantNone(ref)
		}
		b.make(0, 0)
		b.wantSame()
	}
}

func TestP8_1SideBySide(t *testing.T) {
	const count = 30
	a, _ := arena.New(3*(14*count+64), agents)
	var all []*both
	for i := range 3 {
		all = append(all, bothIn(t, a, i*(14*count+64), count))
	}
	for n, b := range all {
		for i := range 3 {
			ref := b.make(i, 9*n+i)
			for field := range b.held[ref] {
				b.put(i, ref, field, 1000*n+100*i+field)
			}
		}
	}
	for n, b := range all {
		b.drop(n, b.refs()[n])
	}
	for _, b := range all {
		b.wantSame()
	}
}

func TestP8_2EachSize(t *testing.T) {
	b := bothOf(t, 200)
	for n := range most + 1 {
		ref := b.make(n%agents, n)
		b.wantSame()
		for i := range n {
			for at, v := range values {
				b.put(at%agents, ref, i, v)
				b.load((at+1)%agents, ref, i)
			}
			b.put(0, ref, i, 100*n+i+1)
		}
		b.wantSame()
		if n%3 != 0 {
			b.drop((n+1)%agents, ref)
		}
		b.wantSame()
	}
}

func TestP8_2FieldsAreZeroWhateverTheFragmentsHeld(t *testing.T) {
	b := bothOf(t, 12)
	for _, n := range []int{most, 0, most, 1, 7, 8, 9, 14, 15, 16, 48, 63, most} {
		ref := b.make(1, n)
		b.wantSame()
		for i := range n {
			b.put(2, ref, i, -1-i)
		}
		b.wantSame()
		b.drop(0, ref)
	}
}

func TestP8_2FieldsShareNoWords(t *testing.T) {
	b := bothOf(t, 2000)
	for round := range 3 {
		for n := 0; b.make(n%agents, n*7%(most+1)) != 0; n++ {
		}
		refs := b.refs()
		for i := range most {
			for _, ref := range refs {
				if i < len(b.held[ref]) {
					b.put(i%agents, ref, i, 1000*ref+10*i+round)
				}
			}
		}
		b.wantSame()
		for at, ref := range refs {
			if at%3 != round {
				b.drop(at%agents, ref)
			}
		}
		b.wantSame()
	}
}

func TestP8_2MakeRefuses(t *testing.T) {
	for _, count := range []int{1, 2, 12, 1200} {
		b := bothOf(t, count)
		for range 2 {
			for _, agent := range noAgents {
				for _, n := range append([]int{0, 1, most}, noSizes...) {
					b.wantNoMake(agent, n, api.ErrObjectRef)
				}
			}
			for _, n := range noSizes {
				for agent := range agents {
					b.wantNoMake(agent, n, api.ErrObjectSize)
				}
			}
			for b.free() > 0 {
				b.make(0, 0)
			}
			for _, n := range []int{0, 1, most} {
				b.wantNoMake(1, n, api.ErrObjectNone)
			}
			b.wantSame()
		}
	}
}

// An object of each size is made in a pool with just so many free fragments, and in none with fewer.
func TestP8_2MakeJustIfSoManyAreFree(t *testing.T) {
	for n := range most + 1 {
		for free := range need(n) {
			b := bothOf(t, need(n)+3)
			for b.free() > free {
				b.make(1, 0)
			}
			b.wantNoMake(2, n, api.ErrObjectNone)
			b.wantSame()
			refs := b.refs()
			for _, ref := range refs[:need(n)-free] {
				b.wantNoMake(0, n, api.ErrObjectNone)
				b.drop(0, ref)
			}
			if b.make(2, n) == 0 {
				t.Fatalf("an object of %d fields is not made with %d free", n, need(n))
			}
			b.wantSame()
		}
	}
}

// The fragments that somebody else has of the pool are not free, and are left alone.
func TestP8_2FragmentsThatOthersTake(t *testing.T) {
	b := bothOf(t, need(most)+1)
	others := []int{}
	for range 2 {
		f, _ := b.p.Alloc(0)
		b.p.Store(0, f, 0, 50)
		b.p.Store(0, f, 7, 57)
		others = append(others, f)
	}
	b.wantNoMake(0, most, api.ErrObjectNone)
	ref := b.make(0, most-6)
	for i := range most - 6 {
		b.put(0, ref, i, i+1)
	}
	b.wantSame()
	for _, f := range others {
		first, _ := b.p.Load(0, f, 0)
		last, _ := b.p.Load(0, f, 7)
		if first != 50 || last != 57 {
			t.Errorf("another's fragment holds %d and %d", first, last)
		}
	}
	b.drop(0, ref)
	slices.Sort(others)
	if used := b.p.Used(); !slices.Equal(used, others) {
		t.Errorf("in use are %v; want %v", used, others)
	}
}

// The fragments of objects may be painted.
func TestP8_2ColoursAreOthersThing(t *testing.T) {
	b := bothOf(t, 40)
	for n := range 3 {
		ref := b.make(n, 20*n)
		for i := range b.held[ref] {
			b.put(n, ref, i, i+1)
		}
	}
	for at, f := range b.p.Used() {
		if code := b.p.Paint(0, f, api.ColourWhite+at%3); code != api.OK {
			t.Fatalf("Paint(0, %d) = %d", f, code)
		}
	}
	b.wantSame()
	for _, ref := range b.refs() {
		b.drop(0, ref)
	}
	if used := b.p.Used(); len(used) != 0 {
		t.Errorf("in use are %v", used)
	}
}

func TestP8_2Bounds(t *testing.T) {
	for n := range most + 1 {
		b := bothOf(t, 30)
		other, ref := b.make(0, 13), b.make(1, n)
		for i := range 13 {
			b.put(0, other, i, 500+i)
		}
		for i := range n {
			b.put(1, ref, i, 700+i)
		}
		for _, i := range []int{
			math.MinInt, math.MinInt + 1, -1 << 32, -8, -7, -1, n, n + 1, n + 7, n + 8, most + 1, 1 << 32, 1<<32 + 1, math.MaxInt,
		} {
			b.wantNoField(2, ref, i, api.ErrObjectBounds)
			for _, agent := range noAgents {
				b.wantNoField(agent, ref, i, api.ErrObjectRef)
			}
		}
		b.wantSame()
	}
}

func TestP8_2AgentsThatAreNone(t *testing.T) {
	b := bothOf(t, 20)
	ref := b.make(0, 30)
	for i := range 30 {
		b.put(0, ref, i, i-15)
	}
	for _, agent := range noAgents {
		for _, i := range []int{-1, 0, 29, 30} {
			b.wantNoField(agent, ref, i, api.ErrObjectRef)
		}
		b.wantNoFree(agent, ref)
	}
	b.wantSame()
}

func TestP8_2ObjectsThatAreNone(t *testing.T) {
	b := bothOf(t, 60)
	for n := range 4 {
		b.make(0, 20*n)
	}
	b.drop(0, b.refs()[2])
	for ref := -3; ref < 70; ref++ {
		if _, is := b.held[ref]; !is {
			b.wantNone(ref)
		}
	}
	for _, ref := range b.refs() {
		for _, far := range []int{-ref, ref + 1<<32, ref - 1<<32, ref + 1<<61, math.MinInt + ref, math.MaxInt - ref} {
			b.wantNone(far)
		}
	}
	b.wantSame()
}

func TestP8_2FreeGivesAllBack(t *testing.T) {
	for n := range most + 1 {
		b := bothOf(t, 5*need(most))
		for round := range 4 {
			for agent := range agents {
				if ref := b.make(agent, n); n > 0 {
					b.put(agent, ref, n-1, math.MinInt+round)
					b.put(agent, ref, 0, 3)
				}
			}
			for at, ref := range b.refs() {
				b.drop((at+round)%agents, ref)
				b.wantSame()
			}
			if used := b.p.Used(); len(used) != 0 {
				t.Fatalf("of no object %v are in use", used)
			}
		}
	}
}

// Fields may hold what could be taken for a way to other fragments.
func TestP8_2ValuesLeadNowhere(t *testing.T) {
	b := bothOf(t, 100)
	for _, n := range upTo(most) {
		first, second := b.make(0, n), b.make(0, n)
		for f := range 30 {
			for i := range n {
				b.put(1, first, i, f)
			}
			for i := range n {
				b.load(2, first, i)
				b.load(2, second, i)
			}
		}
		b.drop(1, first)
		b.wantSame()
		b.drop(1, second)
	}
	if used := b.p.Used(); len(used) != 0 {
		t.Errorf("of no object %v are in use", used)
	}
}

// An object takes fewer fragments than it may.
func TestFragmentsOfAnObject(t *testing.T) {
	for n, want := range map[int]int{0: 1, 1: 1, 7: 1, 8: 1, 9: 2, 15: 2, 16: 3, 57: 8, 58: 9, 63: 9, most: 9} {
		b := bothOf(t, 20)
		b.make(0, n)
		if took := len(b.p.Used()); took != want {
			t.Errorf("an object of %d fields takes %d fragments; want %d", n, took, want)
		}
	}
	for n := range object.MaxSize + 1 {
		b := bothOf(t, 20)
		b.make(0, n)
		if took := len(b.p.Used()); took != object.Takes(n) || need(n) != object.Needs(n) {
			t.Errorf("an object of %d fields takes %d fragments; Takes = %d, Needs = %d", n, took, object.Takes(n), object.Needs(n))
		}
	}
}
