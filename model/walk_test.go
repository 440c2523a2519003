package model_test

import (
	"slices"
	"testing"

	"gneiss/api"
	"gneiss/model"
)

// A tally counts what came about in walks: steps by instruction and by the state that they led to, answers, and the most
// frames that there were.
type tally struct {
	ops    [api.InsCollect + 1]int
	states [api.ThreadFailed + 1]int
	codes  map[api.Errno]int
	fails  int
	queued int
	frames int
}

// A pair is a machine and the plain account of it, which go the same way.
type pair struct {
	t    *testing.T
	p    api.Program
	m    *model.Machine
	n    *plain
	seen *tally
}

// newPair is of a program, if that is taken.
func newPair(t *testing.T, r *random, p api.Program, seen *tally) (*pair, bool) {
	threads := 2 + r.next(api.MaxThreads-1)
	inputs := []int{r.next(10), -1, 1 << 31, 1<<40 + 5}
	m, e := model.New(p, threads, inputs)
	if e != api.OK {
		return nil, false
	}
	return &pair{t, p, m, newPlain(p, threads, inputs), seen}, true
}

// opAt is the instruction at which a thread stands, and whether it stands at one.
func (x *pair) opAt(thread api.Thread) (int, bool) {
	if thread.Frames == 0 {
		return 0, false
	}
	return x.p.Classes[thread.Class-11].Methods[thread.Method].Code[thread.At].Op, true
}

func (x *pair) step(thread int, fail bool) {
	x.t.Helper()
	var op int
	var has bool
	if thread >= 0 && thread < len(x.n.strands) {
		op, has = x.opAt(x.n.Threads()[thread])
	}
	may, makes := x.m.May(thread)
	got, want := x.m.Step(thread, fail), x.n.Step(thread, fail)
	if got != want {
		x.t.Fatalf("Step(%d, %v) = %d; want %d", thread, fail, got, want)
	}
	// P21.4, and what May says of the step.
	if (got == api.OK) != (may && (makes || !fail)) {
		x.t.Fatalf("Step(%d, %v) = %d, but May said %v, %v", thread, fail, got, may, makes)
	}
	x.seen.codes[got]++
	if got == api.OK && has {
		x.seen.ops[op]++
	}
	if got == api.OK {
		now := x.n.Threads()[thread]
		x.seen.states[now.State]++
		x.seen.frames = max(x.seen.frames, now.Frames)
	}
	if got == api.OK && fail {
		x.seen.fails++
	}
	x.wantAlike()
}

// wantAlike holds what is quickly told.
func (x *pair) wantAlike() {
	x.t.Helper()
	if got, want := x.m.Threads(), x.n.Threads(); !slices.Equal(got, want) {
		x.t.Fatalf("Threads() = %+v; want %+v", got, want)
	}
	if got, want := x.m.Out(), x.n.Out(); !slices.Equal(got, want) {
		x.t.Fatalf("Out() = %v; want %v", got, want)
	}
	if got, want := x.m.Objects(), x.n.Objects(); got != want {
		x.t.Fatalf("Objects() = %d; want %d", got, want)
	}
	for thread := -1; thread <= api.MaxThreads; thread++ {
		gotMay, gotMakes := x.m.May(thread)
		if may, makes := x.n.May(thread); gotMay != may || gotMakes != makes {
			x.t.Fatalf("May(%d) = %v, %v; want %v, %v", thread, gotMay, gotMakes, may, makes)
		}
	}
}

func (x *pair) wantAlikeWords() {
	x.t.Helper()
	for obj := -1; obj <= x.n.Objects()+1; obj++ {
		for i, has := -1, true; i <= 0 || has; i++ {
			var want int
			want, has = x.n.Field(obj, i)
			if got, is := x.m.Field(obj, i); got != want || is != has {
				x.t.Fatalf("Field(%d, %d) = %d, %v; want %d, %v", obj, i, got, is, want, has)
			}
		}
	}
}

// wantAlikeValues holds all that is kept.
func (x *pair) wantAlikeValues() {
	x.t.Helper()
	if got, want := x.m.Values(), x.n.Values(); !slices.Equal(got, want) {
		x.t.Fatalf("%v; want %v", got, want)
	}
}

// wantAlikeHolds holds what a collector asks.
func (x *pair) wantAlikeHolds() {
	x.t.Helper()
	if got, want := rising(x.m.Roots()), x.n.Roots(); !slices.Equal(got, want) {
		x.t.Fatalf("Roots() = %v; want %v", got, want)
	}
	for obj := -1; obj <= x.n.Objects()+1; obj++ {
		if got, want := rising(x.m.AppendNamed(nil, obj)), x.n.Named(obj); !slices.Equal(got, want) {
			x.t.Fatalf("AppendNamed(nil, %d) = %v; want %v", obj, got, want)
		}
		got := []bool{x.m.HasWeak(obj), x.m.IsFinal(obj), x.m.WasQueued(obj)}
		if want := []bool{x.n.HasWeak(obj), x.n.IsFinal(obj), x.n.WasQueued(obj)}; !slices.Equal(got, want) {
			x.t.Fatalf("of %d: a weak one, Final, queued: %v; want %v", obj, got, want)
		}
	}
}

// rising is the numbers in their row, each once.
func rising(numbers []int) []int {
	slices.Sort(numbers)
	return slices.Compact(numbers)
}

// collect clears and queues, as a collector might, and otherwise.
func (x *pair) collect(r *random) {
	x.t.Helper()
	obj := r.next(x.n.Objects()+3) - 1
	if got, want := x.m.Clear(obj), x.n.Clear(obj); got != want {
		x.t.Fatalf("Clear(%d) = %d; want %d", obj, got, want)
	}
	obj = r.next(x.n.Objects()+3) - 1
	got, want := x.m.Queue(obj), x.n.Queue(obj)
	if got != want {
		x.t.Fatalf("Queue(%d) = %d; want %d", obj, got, want)
	}
	if got == api.OK {
		x.seen.queued++
	}
}

// part goes on with the machine or a copy of it, while the other one goes some other way.
func (x *pair) part(r *random) {
	other := x.m.Copy()
	if r.once(2) {
		x.m, other = other, x.m
	}
	for range 30 {
		other.Step(r.next(api.MaxThreads), r.once(4))
		other.Clear(1 + r.next(x.n.Objects()))
		other.Queue(1 + r.next(x.n.Objects()))
	}
}

// isStuck tells whether no thread may step.
func (x *pair) isStuck() bool {
	for thread := range x.n.strands {
		if may, _ := x.n.May(thread); may {
			return false
		}
	}
	return true
}

func (x *pair) walk(r *random, most int) {
	x.t.Helper()
	stuck := 0
	for k := 0; k < most && stuck < 20; k++ {
		if x.isStuck() {
			stuck++
		}
		thread := r.next(len(x.n.strands)+2) - 1
		for range 5 {
			if may, _ := x.n.May(thread); may {
				break
			}
			thread = r.next(len(x.n.strands))
		}
		// Main is let begin.
		_, makes := x.n.May(thread)
		x.step(thread, k > 100 && makes && r.once(15) || r.once(100))
		if r.once(10) {
			x.collect(r)
		}
		if r.once(40) {
			x.part(r)
			x.wantAlikeWords()
			x.wantAlikeValues()
			x.wantAlikeHolds()
		}
	}
	x.wantAlikeWords()
	x.wantAlikeHolds()
}

func TestP21_4Walks(t *testing.T) {
	seen := &tally{codes: map[api.Errno]int{}}
	for seed := range 1000 {
		r := random(seed)
		x, is := newPair(t, &r, written(t, &r), seen)
		if !is {
			t.Fatalf("seed %d: the program is not taken", seed)
		}
		x.walk(&r, 700)
	}
	for op, count := range seen.ops {
		if count < 50 {
			t.Errorf("only %d steps of instruction %d", count, op)
		}
	}
	for state, count := range seen.states {
		if count < 20 {
			t.Errorf("only %d steps that led to state %d", count, state)
		}
	}
	for _, e := range []api.Errno{api.OK, api.ErrModelForm, api.ErrModelThread} {
		if seen.codes[e] < 1000 {
			t.Errorf("only %d steps that answered %d", seen.codes[e], e)
		}
	}
	if seen.fails < 1000 || seen.queued < 500 || seen.frames != api.MaxFrames {
		t.Errorf("%d fails, %d queued, %d frames", seen.fails, seen.queued, seen.frames)
	}
}

// spoil changes an instruction, a handler or a map of a program, which may be taken still.
func (r *random) spoil(p api.Program) {
	c := p.Classes[pick(r, mainClass, mainClass, mainClass, shape, round, worker, file)-11]
	m := &c.Methods[r.next(len(c.Methods))]
	i := &m.Code[r.next(len(m.Code))]
	switch r.next(8) {
	case 0:
		i.Op = r.next(api.InsCollect + 1)
	case 1:
		*i = api.Ins{Op: pick(r, api.InsNop, api.InsPop, api.InsDup, api.InsSwap, api.InsInt, api.InsNull)}
	case 2:
		i.A += pick(r, -1, 1)
	case 3:
		i.B += pick(r, -1, 1)
	case 4:
		j := &m.Code[r.next(len(m.Code))]
		*i, *j = *j, *i
	case 5:
		h := &m.Table[r.next(len(m.Table))]
		h.From, h.To, h.Class = r.next(len(m.Code)), r.next(len(m.Code)+1), pick(r, h.Class, r.next(behindAll))
	case 6:
		m.Code[len(m.Code)-1] = pick(r, api.Ins{Op: api.InsReturn}, api.Ins{Op: api.InsGoto, A: pick(r, m.Maps...).At})
	default:
		m.Maps = slices.Delete(slices.Clone(m.Maps), 0, 1)
	}
}

// cloned shares nothing with p that spoil changes.
func cloned(p api.Program) api.Program {
	p.Classes = slices.Clone(p.Classes)
	for i := range p.Classes {
		c := &p.Classes[i]
		c.Methods = slices.Clone(c.Methods)
		for j := range c.Methods {
			m := &c.Methods[j]
			m.Code, m.Table = slices.Clone(m.Code), slices.Clone(m.Table)
		}
	}
	return p
}

// TestP21_4WalksOfSpoiltPrograms: whatever layer 18 takes, the machine does as the chapter's words say.
func TestP21_4WalksOfSpoiltPrograms(t *testing.T) {
	seen := &tally{codes: map[api.Errno]int{}}
	spoilt := 0
	for seed := range 300 {
		r := random(seed)
		p := written(t, &r)
		x, _ := newPair(t, &r, p, seen)
		for range 30 {
			q := cloned(p)
			r.spoil(q)
			if y, is := newPair(t, &r, q, seen); is {
				x, p = y, q
				spoilt++
			}
		}
		x.walk(&r, 400)
	}
	if spoilt < 1000 {
		t.Errorf("only %d changes were taken", spoilt)
	}
}
