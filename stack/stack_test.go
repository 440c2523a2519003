package stack_test

import (
	"math"
	"slices"
	"testing"

	"gneiss/api"
	"gneiss/arena"
	"gneiss/stack"
)

// alone is how many steps an operation may take whose agent alone steps.
const alone = 16

// row is a fixed row of numbers.
type row uint64

func (r *row) next(below int) int {
	*r = *r*6364136223846793005 + 1442695040888963407
	return int(uint64(*r) >> 33 % uint64(below))
}

func newArena(t *testing.T, words, agents int) *arena.Arena {
	t.Helper()
	a, code := arena.New(words, agents)
	if a == nil || code != api.OK {
		t.Fatalf("arena.New(%d, %d) = %v, %d", words, agents, a, code)
	}
	return a
}

func newStack(t *testing.T, a *arena.Arena, base, cap int) *stack.Stack {
	t.Helper()
	s, code := stack.New(a, base, cap)
	if s == nil || code != api.OK {
		t.Fatalf("New(%d, %d) = %v, %d", base, cap, s, code)
	}
	return s
}

// room is how many words a stack of so many numbers may take.
func room(cap int) int {
	return 2*cap + 8
}

// fitted is a stack in an arena that holds nothing else.
func fitted(t *testing.T, cap, agents int) (*arena.Arena, *stack.Stack) {
	t.Helper()
	a := newArena(t, room(cap), agents)
	return a, newStack(t, a, 0, cap)
}

func fill(a *arena.Arena, word func(at int) int) {
	for at := range a.Words() {
		a.Store(0, at, word(at))
	}
}

func stepsOf(a *arena.Arena) []int {
	all := make([]int, api.MaxAgents)
	for agent := range all {
		all[agent] = a.Steps(agent)
	}
	return all
}

func wantSteps(t *testing.T, a *arena.Arena, want []int) {
	t.Helper()
	if got := stepsOf(a); !slices.Equal(got, want) {
		t.Fatalf("the agents' steps are %v; want %v", got, want)
	}
}

func wantItems(t *testing.T, s *stack.Stack, want ...int) {
	t.Helper()
	if got := s.Items(); !slices.Equal(got, want) {
		t.Fatalf("Items() = %v; want %v", got, want)
	}
}

func wantBegin(t *testing.T, s *stack.Stack, agent, op, v int, want api.Errno) {
	t.Helper()
	if code := s.Begin(agent, op, v); code != want {
		t.Fatalf("Begin(%d, %d, %d) = %d; want %d", agent, op, v, code, want)
	}
}

func wantStep(t *testing.T, s *stack.Stack, agent int, done bool, value int, ok bool) {
	t.Helper()
	isDone, got, isOk, code := s.Step(agent)
	if isDone != done || got != value || isOk != ok || code != api.OK {
		t.Fatalf("Step(%d) = %v, %d, %v, %d; want %v, %d, %v, OK", agent, isDone, got, isOk, code, done, value, ok)
	}
}

func wantNoStep(t *testing.T, s *stack.Stack, agent int, want api.Errno) {
	t.Helper()
	if done, value, ok, code := s.Step(agent); done || value != 0 || ok || code != want {
		t.Fatalf("Step(%d) = %v, %d, %v, %d; want false, 0, false, %d", agent, done, value, ok, code, want)
	}
}

// finish steps the agent alone till its operation is done.
func finish(t *testing.T, s *stack.Stack, agent int) (int, bool) {
	t.Helper()
	for range alone {
		done, value, ok, code := s.Step(agent)
		switch {
		case code != api.OK:
			t.Fatalf("Step(%d) = %d", agent, code)
		case done:
			return value, ok
		case value != 0 || ok:
			t.Fatalf("Step(%d), not done, = %d, %v", agent, value, ok)
		}
	}
	t.Fatalf("agent %d alone is not done within %d steps", agent, alone)
	return 0, false
}

func push(t *testing.T, s *stack.Stack, agent int, numbers ...int) {
	t.Helper()
	for _, v := range numbers {
		wantBegin(t, s, agent, api.OpPush, v, api.OK)
		if value, ok := finish(t, s, agent); value != 0 || !ok {
			t.Fatalf("a push of %d answers %d, %v", v, value, ok)
		}
	}
}

func pop(t *testing.T, s *stack.Stack, agent int, numbers ...int) {
	t.Helper()
	for _, want := range numbers {
		wantBegin(t, s, agent, api.OpPop, 0, api.OK)
		if value, ok := finish(t, s, agent); value != want || !ok {
			t.Fatalf("a pop answers %d, %v; want %d, true", value, ok, want)
		}
	}
}

func popNothing(t *testing.T, s *stack.Stack, agent int) {
	t.Helper()
	wantBegin(t, s, agent, api.OpPop, 0, api.OK)
	if value, ok := finish(t, s, agent); value != 0 || ok {
		t.Fatalf("a pop of nothing answers %d, %v", value, ok)
	}
}

func TestP5_1NewRefuses(t *testing.T) {
	const words = 2100
	a := newArena(t, words, 2)
	for _, cap := range []int{math.MinInt, -1000, -1, 0, 1001, 1002, 1 << 32, 1<<32 + 1, 1<<62 - 4, 1<<63 - 4, math.MaxInt} {
		for _, base := range []int{0, 5, -1, words} {
			if s, code := stack.New(a, base, cap); s != nil || code != api.ErrStackSize {
				t.Errorf("New(%d, %d) = %v, %d; want nil, ErrStackSize", base, cap, s, code)
			}
		}
	}
	for _, cap := range []int{1, 2, 7, 999, 1000} {
		last := words - room(cap)
		for _, base := range []int{
			math.MinInt, -1 << 32, -room(cap), -1, last + 1, last + 2, words, words + 1, 1<<32 + 1,
			math.MaxInt - room(cap), math.MaxInt - room(cap) + 1, math.MaxInt,
		} {
			if s, code := stack.New(a, base, cap); s != nil || code != api.ErrStackSize {
				t.Errorf("New(%d, %d) = %v, %d; want nil, ErrStackSize", base, cap, s, code)
			}
		}
		for _, base := range []int{0, 1, last - 1, last} {
			push(t, newStack(t, a, base, cap), 0, cap-1)
		}
	}
}

func TestP5_1TheLeastArenas(t *testing.T) {
	for _, cap := range []int{1, 2, 3, 500, 1000} {
		for _, words := range []int{1, room(cap) - 1} {
			if s, code := stack.New(newArena(t, words, 1), 0, cap); s != nil || code != api.ErrStackSize {
				t.Errorf("%d words: New(0, %d) = %v, %d; want nil, ErrStackSize", words, cap, s, code)
			}
		}
		newStack(t, newArena(t, room(cap), 1), 0, cap)
	}
	newStack(t, newArena(t, api.MaxWords, 1), api.MaxWords-room(1000), 1000)
}

func TestP5_1EmptyWhateverTheWordsWere(t *testing.T) {
	const cap, agents = 5, 3
	for _, junk := range []int{math.MinInt, math.MinInt + 1, -7, -1, 0, 1, 2, 5, 6, 1023, 1024, math.MaxInt - 1, math.MaxInt} {
		a := newArena(t, room(cap)+20, agents)
		fill(a, func(int) int { return junk })
		before := stepsOf(a)
		s := newStack(t, a, 10, cap)
		wantItems(t, s)
		wantSteps(t, a, before)
		popNothing(t, s, 1)
		push(t, s, 2, 4, 0, 3)
		wantItems(t, s, 3, 0, 4)
		pop(t, s, 1, 3, 0, 4)
		popNothing(t, s, 0)
	}
}

func TestP5_1ANewOneOverAnOldOneIsEmpty(t *testing.T) {
	a, s := fitted(t, 4, 1)
	push(t, s, 0, 2, 3)
	s = newStack(t, a, 0, 4)
	wantItems(t, s)
	push(t, s, 0, 3, 2)
	wantItems(t, s, 2, 3)
}

func TestP5_1KeepsToItsWords(t *testing.T) {
	for _, cap := range []int{1, 2, 30, 1000} {
		base, mark := 50, func(at int) int { return -at*1000 - 1 }
		a := newArena(t, base+room(cap)+50, 4)
		fill(a, mark)
		s := newStack(t, a, base, cap)
		mixed(t, a, s, cap, 4, 4000)
		for at := range a.Words() {
			word, _ := a.Load(0, at)
			if (at < base || at >= base+room(cap)) && word != mark(at) {
				t.Fatalf("cap %d: word %d is %d; it was %d", cap, at, word, mark(at))
			}
		}
	}
}

func TestNewFull(t *testing.T) {
	for _, cap := range []int{1, 2, 3, 256, 999, 1000} {
		a := newArena(t, room(cap)+2, 2)
		fill(a, func(int) int { return 77 })
		before := stepsOf(a)
		s, code := stack.NewFull(a, 1, cap)
		if s == nil || code != api.OK {
			t.Fatalf("NewFull(1, %d) = %v, %d", cap, s, code)
		}
		wantSteps(t, a, before)
		all := make([]int, cap)
		for v := range all {
			all[v] = v
			wantBegin(t, s, 1, api.OpPush, v, api.ErrStackValue)
		}
		wantItems(t, s, all...)
		pop(t, s, 0, all...)
		popNothing(t, s, 0)
		push(t, s, 1, cap-1)
		wantItems(t, s, cap-1)
		for _, at := range []int{0, room(cap) + 1} {
			if word, _ := a.Load(0, at); word != 77 {
				t.Errorf("cap %d: word %d is %d", cap, at, word)
			}
		}
	}
	if s, code := stack.NewFull(nil, 0, 1); s != nil || code != api.ErrNil {
		t.Errorf("NewFull of nil = %v, %d", s, code)
	}
	a := newArena(t, 2008, 1)
	for _, at := range [][2]int{{0, 0}, {0, -1}, {0, 1001}, {1, 1000}, {-1, 1}, {math.MaxInt, 1}, {0, math.MaxInt}} {
		if s, code := stack.NewFull(a, at[0], at[1]); s != nil || code != api.ErrStackSize {
			t.Errorf("NewFull(%d, %d) = %v, %d", at[0], at[1], s, code)
		}
	}
}

func TestHasItems(t *testing.T) {
	a, s := fitted(t, 3, 2)
	for range 2 {
		if s.HasItems() {
			t.Error("an empty one has items")
		}
		push(t, s, 1, 2, 0)
		before := stepsOf(a)
		if !s.HasItems() {
			t.Error("it has no items")
		}
		wantSteps(t, a, before)
		pop(t, s, 0, 0)
		if !s.HasItems() {
			t.Error("it has no item")
		}
		pop(t, s, 0, 2)
	}
	var none *stack.Stack
	var bare stack.Stack
	if none.HasItems() || bare.HasItems() {
		t.Error("nothing has items")
	}
}

func TestCount(t *testing.T) {
	a, s := fitted(t, 5, 2)
	for held := range 6 {
		before := stepsOf(a)
		for _, most := range []int{math.MinInt, -1, 0, 1, 2, 3, 4, 5, 6, math.MaxInt} {
			if got, want := s.Count(most), max(0, min(held, most)); got != want {
				t.Errorf("of %d: Count(%d) = %d; want %d", held, most, got, want)
			}
		}
		wantSteps(t, a, before)
		if held < 5 {
			push(t, s, 1, held)
		}
	}
	var none *stack.Stack
	var bare stack.Stack
	if none.Count(1) != 0 || bare.Count(1) != 0 {
		t.Error("nothing has items")
	}
}

func TestP5_1SideBySide(t *testing.T) {
	const cap = 9
	a := newArena(t, 3*room(cap), 2)
	var all []*stack.Stack
	for i := range 3 {
		all = append(all, newStack(t, a, i*room(cap), cap))
	}
	for v := range cap {
		for i, s := range all {
			push(t, s, i%2, (v+i)%cap)
		}
	}
	for i, s := range all {
		wantBegin(t, s, 0, api.OpPop, 0, api.OK)
		if got := s.Items(); len(got) != cap || got[0] != (cap-1+i)%cap {
			t.Errorf("stack %d: %v", i, got)
		}
	}
	for v := cap - 1; v >= 0; v-- {
		for i, s := range all {
			pop(t, s, 1, (v+i)%cap)
		}
	}
}

func TestP5_2Alone(t *testing.T) {
	a, s := fitted(t, 1000, 3)
	popNothing(t, s, 0)
	push(t, s, 0, 5)
	push(t, s, 1, 0)
	push(t, s, 2, 999, 7)
	wantItems(t, s, 7, 999, 0, 5)
	pop(t, s, 0, 7)
	push(t, s, 1, 6)
	wantItems(t, s, 6, 999, 0, 5)
	before := stepsOf(a)
	wantItems(t, s, 6, 999, 0, 5)
	wantSteps(t, a, before)
	pop(t, s, 2, 6, 999, 0, 5)
	popNothing(t, s, 2)
	wantItems(t, s)
}

func TestP5_2AllNumbersAtOnce(t *testing.T) {
	for _, cap := range []int{1, 2, 3, 255, 256, 257, 1000} {
		_, s := fitted(t, cap, 2)
		for range 2 {
			var down []int
			for i := range cap {
				v := i * 7 % cap
				if cap%7 == 0 {
					v = i
				}
				push(t, s, i%2, v)
				down = append(down, v)
				wantBegin(t, s, 0, api.OpPush, v, api.ErrStackValue)
			}
			slices.Reverse(down)
			wantItems(t, s, down...)
			for v := range cap {
				wantBegin(t, s, v%2, api.OpPush, v, api.ErrStackValue)
			}
			pop(t, s, 1, down...)
			popNothing(t, s, 1)
		}
	}
}

func TestP5_2BeginRefuses(t *testing.T) {
	a, s := fitted(t, 3, 4)
	push(t, s, 0, 2)
	before := stepsOf(a)
	for _, agent := range []int{math.MinInt, -1 << 32, -1, 4, 5, 11, 12, 13, 1 << 32, math.MaxInt} {
		for _, op := range []int{api.OpPush, api.OpPop, 2} {
			wantBegin(t, s, agent, op, 0, api.ErrStackAgent)
		}
		wantNoStep(t, s, agent, api.ErrStackAgent)
	}
	for _, op := range []int{math.MinInt, -1, 2, 3, 1 << 32, 1<<32 + 1, math.MaxInt} {
		wantBegin(t, s, 1, op, 0, api.ErrStackValue)
	}
	for _, v := range []int{math.MinInt, -1 << 32, -2, -1, 3, 4, 1000, 1 << 32, 1<<32 + 1, math.MaxInt - 1, math.MaxInt, 2} {
		wantBegin(t, s, 1, api.OpPush, v, api.ErrStackValue)
	}
	for agent := range 4 {
		wantNoStep(t, s, agent, api.ErrStackIdle)
	}
	wantItems(t, s, 2)
	wantSteps(t, a, before)
	push(t, s, 1, 0, 1)
	wantItems(t, s, 1, 0, 2)
}

func TestP5_2BusyTillItIsDone(t *testing.T) {
	_, s := fitted(t, 3, 2)
	push(t, s, 1, 2)
	for _, op := range []int{api.OpPush, api.OpPop} {
		wantBegin(t, s, 0, op, 1, api.OK)
		for done := false; !done; {
			wantBegin(t, s, 0, api.OpPush, 0, api.ErrStackBusy)
			wantBegin(t, s, 0, api.OpPush, 1, api.ErrStackBusy)
			wantBegin(t, s, 0, api.OpPush, 9, api.ErrStackBusy)
			wantBegin(t, s, 0, api.OpPop, 0, api.ErrStackBusy)
			wantBegin(t, s, 0, 7, 0, api.ErrStackBusy)
			wantBegin(t, s, 2, api.OpPush, 9, api.ErrStackAgent)
			wantNoStep(t, s, 1, api.ErrStackIdle)
			done, _, _, _ = s.Step(0)
		}
		wantNoStep(t, s, 0, api.ErrStackIdle)
	}
	wantItems(t, s, 2)
}

func TestP5_2PopLooksAtNoNumber(t *testing.T) {
	_, s := fitted(t, 8, 1)
	for _, v := range []int{math.MinInt, -1, 0, 7, 8, 9, 3, 1 << 40, math.MaxInt} {
		push(t, s, 0, 7, 3)
		wantBegin(t, s, 0, api.OpPop, v, api.OK)
		if value, ok := finish(t, s, 0); value != 3 || !ok {
			t.Fatalf("a pop that was handed %d answers %d, %v", v, value, ok)
		}
		pop(t, s, 0, 7)
		wantBegin(t, s, 0, api.OpPop, v, api.OK)
		if value, ok := finish(t, s, 0); value != 0 || ok {
			t.Fatalf("a pop of nothing that was handed %d answers %d, %v", v, value, ok)
		}
	}
}

func TestP5_2ANumberThatIsPopped(t *testing.T) {
	_, s := fitted(t, 4, 3)
	push(t, s, 0, 1)
	wantBegin(t, s, 1, api.OpPop, 3, api.OK)
	for done := false; !done; {
		wantBegin(t, s, 0, api.OpPush, 1, api.ErrStackValue)
		done, _, _, _ = s.Step(1)
	}
	push(t, s, 0, 1, 3)
	wantItems(t, s, 3, 1)
}

func TestP5_2ANumberThatIsPushed(t *testing.T) {
	_, s := fitted(t, 4, 3)
	wantBegin(t, s, 1, api.OpPush, 0, api.OK)
	wantBegin(t, s, 2, api.OpPush, 3, api.OK)
	for done := false; !done; {
		wantItems(t, s)
		wantBegin(t, s, 0, api.OpPush, 0, api.ErrStackValue)
		wantBegin(t, s, 0, api.OpPush, 3, api.ErrStackValue)
		done, _, _, _ = s.Step(1)
	}
	wantItems(t, s, 0)
	wantBegin(t, s, 0, api.OpPush, 0, api.ErrStackValue)
	wantBegin(t, s, 0, api.OpPush, 3, api.ErrStackValue)
	pop(t, s, 1, 0)
	push(t, s, 1, 0)
	finish(t, s, 2)
	wantItems(t, s, 3, 0)
}

func TestP5_2EachStepIsAtMostOneOfTheArena(t *testing.T) {
	a, s := fitted(t, 6, 4)
	for round := range 12 {
		agent := round % 4
		before := stepsOf(a)
		if round%3 == 2 {
			wantBegin(t, s, agent, api.OpPop, 0, api.OK)
		} else {
			wantBegin(t, s, agent, api.OpPush, round%6, api.OK)
		}
		wantSteps(t, a, before)
		for done := false; !done; {
			before = stepsOf(a)
			done, _, _, _ = s.Step(agent)
			now := stepsOf(a)
			if more := now[agent] - before[agent]; more < 0 || more > 1 {
				t.Fatalf("a Step is %d steps of the arena", more)
			}
			now[agent] = before[agent]
			if !slices.Equal(now, before) {
				t.Fatalf("a Step of agent %d is one of another", agent)
			}
		}
		if round%3 == 2 {
			pop(t, s, agent, s.Items()...)
		}
	}
}

func TestP5_2EveryCountOfAgents(t *testing.T) {
	for agents := 1; agents <= api.MaxAgents; agents++ {
		a, s := fitted(t, api.MaxAgents, agents)
		for agent := range agents {
			wantBegin(t, s, agent, api.OpPush, agent, api.OK)
		}
		wantBegin(t, s, agents, api.OpPop, 0, api.ErrStackAgent)
		wantNoStep(t, s, agents, api.ErrStackAgent)
		var down []int
		for agent := range agents {
			finish(t, s, agent)
			down = append(down, agent)
		}
		slices.Reverse(down)
		wantItems(t, s, down...)
		for agent := range api.MaxAgents {
			if moved := a.Steps(agent) > 0; moved != (agent < agents) {
				t.Errorf("of %d agents, agent %d did %d steps", agents, agent, a.Steps(agent))
			}
		}
	}
}

func TestP5_2AnOtherOnTopDoesNotStopIt(t *testing.T) {
	for ahead := range 3 {
		_, s := fitted(t, 6, 3)
		push(t, s, 1, 0, 1, 2)
		wantBegin(t, s, 0, api.OpPop, 0, api.OK)
		wantBegin(t, s, 2, api.OpPush, 5, api.OK)
		for range ahead {
			wantStep(t, s, 0, false, 0, false)
			wantStep(t, s, 2, false, 0, false)
		}
		pop(t, s, 1, 2)
		push(t, s, 1, 4)
		if value, ok := finish(t, s, 0); value != 4 || !ok {
			t.Fatalf("%d steps ahead: a pop answers %d, %v", ahead, value, ok)
		}
		if value, ok := finish(t, s, 2); value != 0 || !ok {
			t.Fatalf("%d steps ahead: a push answers %d, %v", ahead, value, ok)
		}
		wantItems(t, s, 5, 1, 0)
	}
}

func TestR3Nil(t *testing.T) {
	var none *stack.Stack
	for _, agent := range []int{-1, 0, 12} {
		if code := none.Begin(agent, 9, -1); code != api.ErrNil {
			t.Errorf("Begin = %d", code)
		}
		wantNoStep(t, none, agent, api.ErrNil)
	}
	if got := none.Items(); len(got) != 0 {
		t.Errorf("Items() = %v", got)
	}
	for _, at := range [][2]int{{0, 1}, {-1, 1}, {0, 0}, {0, 1001}, {math.MaxInt, 1}} {
		if s, code := stack.New(nil, at[0], at[1]); s != nil || code != api.ErrNil {
			t.Errorf("New(nil, %d, %d) = %v, %d; want nil, ErrNil", at[0], at[1], s, code)
		}
	}
}

func TestR1ObjectsThatNewDidNotMake(t *testing.T) {
	var bare stack.Stack
	wantBegin(t, &bare, 0, api.OpPush, 0, api.ErrStackAgent)
	wantNoStep(t, &bare, 0, api.ErrStackAgent)
	wantItems(t, &bare)
	if s, code := stack.New(&arena.Arena{}, 0, 1); s != nil || code != api.ErrStackSize {
		t.Errorf("New of a bare arena = %v, %d", s, code)
	}
}

// Somebody else writes in the stack's words: then only R1 is promised, but that of all calls.
func TestR1WordsThatOthersWrote(t *testing.T) {
	r := row(11)
	junk := []int{math.MinInt, math.MinInt + 1, -8, -2, -1, 0, 1, 2, 3, 7, 8, 9, 1 << 40, math.MaxInt - 1, math.MaxInt}
	for range 400 {
		a, s := fitted(t, 7, 3)
		for range 60 {
			if r.next(3) == 0 {
				a.Store(r.next(3), r.next(a.Words()), junk[r.next(len(junk))])
			}
			agent := r.next(3)
			s.Begin(agent, r.next(2), r.next(7))
			s.Step(agent)
			for _, item := range s.Items() {
				if item < 0 || item > 6 {
					t.Fatalf("Items() has %d", item)
				}
			}
		}
		for agent := range 3 {
			for range alone {
				s.Step(agent)
			}
			wantNoStep(t, s, agent, api.ErrStackIdle)
		}
	}
}

func TestR4ItemsAreTheCallersOwn(t *testing.T) {
	_, s := fitted(t, 5, 1)
	push(t, s, 0, 1, 4, 2)
	first, second := s.Items(), s.Items()
	first[0], first[2] = 9, 9
	first = append(first[:1], 8, 8, 8)
	if !slices.Equal(second, []int{2, 4, 1}) {
		t.Errorf("two answers share memory: %v, %v", first, second)
	}
	wantItems(t, s, 2, 4, 1)
	push(t, s, 0, 0)
	if !slices.Equal(second, []int{2, 4, 1}) {
		t.Errorf("an answer shares memory with the stack: %v", second)
	}
}
