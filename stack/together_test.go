package stack_test

import (
	"slices"
	"testing"

	"gneiss/api"
	"gneiss/arena"
	"gneiss/stack"
)

// deed is an operation that an agent is to do.
type deed struct {
	op int
	v  int
}

// plain is what the stack ought to be: each operation at once, in the row in which they are done.
type plain struct {
	up    []int
	doing map[int]deed
}

func newPlain(up ...int) *plain {
	return &plain{up: up, doing: map[int]deed{}}
}

func (p *plain) takes(v int) bool {
	for _, d := range p.doing {
		if d.op == api.OpPush && d.v == v {
			return false
		}
	}
	return !slices.Contains(p.up, v)
}

// done does the agent's operation, and tells what it answers.
func (p *plain) done(agent int) (int, bool) {
	d := p.doing[agent]
	delete(p.doing, agent)
	if d.op == api.OpPush {
		p.up = append(p.up, d.v)
		return 0, true
	}
	if len(p.up) == 0 {
		return 0, false
	}
	last := p.up[len(p.up)-1]
	p.up = p.up[:len(p.up)-1]
	return last, true
}

func (p *plain) down() []int {
	down := slices.Clone(p.up)
	slices.Reverse(down)
	return down
}

// both is a stack beside its plain one; dry is how many steps were done since an operation was.
type both struct {
	arena *arena.Arena
	stack *stack.Stack
	plain *plain
	dry   int
}

// begin begins the operation, and tells whether it is under way.
func (b *both) begin(t *testing.T, agent int, d deed) bool {
	t.Helper()
	want := api.OK
	if _, busy := b.plain.doing[agent]; busy {
		want = api.ErrStackBusy
	} else if d.op == api.OpPush && !b.plain.takes(d.v) {
		want = api.ErrStackValue
	}
	wantBegin(t, b.stack, agent, d.op, d.v, want)
	if want != api.OK {
		return false
	}
	b.plain.doing[agent] = d
	return true
}

// step steps the agent, and tells whether its operation is done.
func (b *both) step(t *testing.T, agent int) bool {
	t.Helper()
	before := b.arena.Steps(agent)
	done, value, ok, code := b.stack.Step(agent)
	if code != api.OK || b.arena.Steps(agent)-before > 1 {
		t.Fatalf("Step(%d) = %d, by %d steps", agent, code, b.arena.Steps(agent)-before)
	}
	b.dry++
	wantValue, wantOk := 0, false
	if done {
		wantValue, wantOk = b.plain.done(agent)
		b.dry = 0
	}
	if value != wantValue || ok != wantOk {
		t.Fatalf("Step(%d) = %v, %d, %v; want %d, %v", agent, done, value, ok, wantValue, wantOk)
	}
	if b.dry > alone*api.MaxAgents {
		t.Fatalf("no operation was done in %d steps", b.dry)
	}
	return done
}

func (b *both) wantSame(t *testing.T) {
	t.Helper()
	wantItems(t, b.stack, b.plain.down()...)
}

// everyRow plays by each row of choices that there is.
func everyRow(play func(choose func(among int) int)) int {
	var taken, widths []int
	for rows := 1; ; rows++ {
		at := 0
		play(func(among int) int {
			if at == len(taken) {
				taken, widths = append(taken, 0), append(widths, among)
			}
			at++
			return taken[at-1]
		})
		for len(taken) > 0 && taken[len(taken)-1] == widths[len(taken)-1]-1 {
			taken, widths = taken[:len(taken)-1], widths[:len(taken)-1]
		}
		if len(taken) == 0 {
			return rows
		}
		taken[len(taken)-1]++
	}
}

// playAll lets each agent do its deeds, the agents stepping in the row that choose tells; a deed that is refused is
// passed by.
func playAll(t *testing.T, up []int, deeds [][]deed, choose func(among int) int) {
	t.Helper()
	a, s := fitted(t, 4, len(deeds))
	push(t, s, 0, up...)
	b := &both{arena: a, stack: s, plain: newPlain(slices.Clone(up)...)}
	left := slices.Clone(deeds)
	for {
		var agents []int
		for agent := range left {
			if _, busy := b.plain.doing[agent]; busy || len(left[agent]) > 0 {
				agents = append(agents, agent)
			}
		}
		if len(agents) == 0 {
			return
		}
		agent := agents[choose(len(agents))]
		if _, busy := b.plain.doing[agent]; !busy {
			d := left[agent][0]
			left[agent] = left[agent][1:]
			if !b.begin(t, agent, d) {
				continue
			}
		}
		b.step(t, agent)
		b.wantSame(t)
	}
}

func TestP5_3EveryRowOfSteps(t *testing.T) {
	take, put := deed{op: api.OpPop}, func(v int) deed { return deed{api.OpPush, v} }
	for name, c := range map[string]struct {
		up    []int
		deeds [][]deed
	}{
		"a pop, while all is taken and the first put back": {[]int{1, 0}, [][]deed{{take}, {take, take, put(0)}}},
		"a pop, while its number is put back on another":   {[]int{1, 0}, [][]deed{{take}, {take, put(2), put(0)}}},
		"a push, while the top is taken and put back":      {[]int{1, 0}, [][]deed{{put(3)}, {take, put(0)}}},
		"two that take and put back":                       {[]int{0}, [][]deed{{take, put(0)}, {take, put(0)}}},
		"two pushes of one number":                         {[]int{2}, [][]deed{{put(1)}, {put(1), take}}},
		"two pops of none and a push":                      {nil, [][]deed{{take}, {put(3)}, {take}}},
		"two pops of one and a push":                       {[]int{1}, [][]deed{{take}, {put(3)}, {take}}},
	} {
		rows := everyRow(func(choose func(among int) int) {
			playAll(t, c.up, c.deeds, choose)
		})
		if rows < 10 {
			t.Errorf("%s: %d rows", name, rows)
		}
	}
}

// A pop has seen its top and what is below it; then the same number comes back on top with another below it.
func TestP5_3ASwapThatComesTooLateFails(t *testing.T) {
	_, s := fitted(t, 4, 2)
	push(t, s, 1, 2, 1, 0)
	wantBegin(t, s, 0, api.OpPop, 0, api.OK)
	wantStep(t, s, 0, false, 0, false)
	wantStep(t, s, 0, false, 0, false)
	pop(t, s, 1, 0, 1)
	push(t, s, 1, 0)
	if value, ok := finish(t, s, 0); value != 0 || !ok {
		t.Fatalf("the pop answers %d, %v; want 0, true", value, ok)
	}
	wantItems(t, s, 2)
	push(t, s, 1, 1)
	wantItems(t, s, 1, 2)
}

// As above, with so many operations between that a tag of few bits would be the same again.
func TestP5_3TheTagGrowsOn(t *testing.T) {
	for _, pairs := range []int{1, 2, 4, 8, 16, 32, 64, 128, 256, 512, 1024, 4096, 32768} {
		_, s := fitted(t, 1000, 2)
		push(t, s, 1, 2, 1, 0)
		wantBegin(t, s, 0, api.OpPop, 0, api.OK)
		wantStep(t, s, 0, false, 0, false)
		wantStep(t, s, 0, false, 0, false)
		pop(t, s, 1, 0, 1)
		for range pairs - 2 {
			push(t, s, 1, 3)
			pop(t, s, 1, 3)
		}
		push(t, s, 1, 4, 0)
		if value, ok := finish(t, s, 0); value != 0 || !ok {
			t.Fatalf("the pop answers %d, %v; want 0, true", value, ok)
		}
		wantItems(t, s, 4, 2)
	}
}

// mixed lets agents begin and step as a fixed row says, and holds all against the plain stack.
func mixed(t *testing.T, a *arena.Arena, s *stack.Stack, cap, agents, rounds int) {
	t.Helper()
	r := row(cap*100 + agents)
	b := &both{arena: a, stack: s, plain: newPlain()}
	for range rounds {
		agent := r.next(agents)
		if _, busy := b.plain.doing[agent]; !busy {
			b.begin(t, agent, deed{r.next(2), r.next(cap)})
			continue
		}
		if b.step(t, agent) {
			b.wantSame(t)
		}
		if r.next(40) == 0 {
			b.finishAlone(t, r.next(agents))
		}
	}
	b.wantSame(t)
}

// finishAlone steps the agent alone from wherever its operation stands.
func (b *both) finishAlone(t *testing.T, agent int) {
	t.Helper()
	for steps := 1; len(b.plain.doing) > 0; steps++ {
		if _, busy := b.plain.doing[agent]; !busy {
			return
		}
		if steps > alone {
			t.Fatalf("agent %d alone is not done within %d steps", agent, alone)
		}
		b.step(t, agent)
	}
}

func TestP5_3LongWalks(t *testing.T) {
	for _, cap := range []int{1, 2, 5, 12, 100, 1000} {
		for _, agents := range []int{1, 2, 3, 7, api.MaxAgents} {
			a, s := fitted(t, cap, agents)
			mixed(t, a, s, cap, agents, 6000)
		}
	}
}

// However the agents step, some operation gets done: by turns, in bursts, and one that others always forestall.
func TestP5_3SomeOperationGetsDone(t *testing.T) {
	for _, burst := range []int{1, 2, 3, 4, 5, 7} {
		a, s := fitted(t, 64, api.MaxAgents)
		b := &both{arena: a, stack: s, plain: newPlain()}
		finished := 0
		for i := range 20000 {
			agent := i / burst % api.MaxAgents
			if _, busy := b.plain.doing[agent]; !busy && !b.begin(t, agent, deed{i % 2, i % 64}) {
				continue
			}
			if b.step(t, agent) {
				finished++
			}
		}
		if finished < 20000/(alone*api.MaxAgents) {
			t.Errorf("in bursts of %d: %d operations were done", burst, finished)
		}
		b.wantSame(t)
	}
}

func TestP5_3OneThatIsAlwaysForestalled(t *testing.T) {
	_, s := fitted(t, 4, 2)
	push(t, s, 1, 0, 1)
	wantBegin(t, s, 0, api.OpPop, 0, api.OK)
	for range 500 {
		if done, _, _, code := s.Step(0); code != api.OK || done {
			t.Fatalf("Step(0) = %v, %d; want false, OK", done, code)
		}
		pop(t, s, 1, 1)
		push(t, s, 1, 1)
	}
	if value, ok := finish(t, s, 0); value != 1 || !ok {
		t.Fatalf("the pop answers %d, %v; want 1, true", value, ok)
	}
	wantItems(t, s, 0)
}
