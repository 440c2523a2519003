package sched_test

import (
	"math"
	"math/big"
	"runtime"
	"slices"
	"testing"

	"gneiss/api"
	"gneiss/sched"
)

func newSched(t *testing.T, agents int, script, inputs []int) *sched.Sched {
	t.Helper()
	s, code := sched.New(agents, script, inputs)
	if s == nil || code != api.OK {
		t.Fatalf("New(%d) = %v, %d", agents, s, code)
	}
	return s
}

func mustSet(t *testing.T, s *sched.Sched, agent, state int) {
	t.Helper()
	if code := s.Set(agent, state); code != api.OK {
		t.Fatalf("Set(%d, %d) = %d", agent, state, code)
	}
}

func wantPick(t *testing.T, s *sched.Sched, agent int, more bool) {
	t.Helper()
	if got, is := s.Pick(); got != agent || is != more {
		t.Fatalf("Pick() = %d, %v; want %d, %v", got, is, agent, more)
	}
}

func wantPicks(t *testing.T, s *sched.Sched, agents ...int) {
	t.Helper()
	for _, agent := range agents {
		wantPick(t, s, agent, true)
	}
}

func wantInputs(t *testing.T, s *sched.Sched, inputs ...int) {
	t.Helper()
	for i, want := range inputs {
		if got := s.Input(); got != want {
			t.Fatalf("input %d = %d; want %d", i, got, want)
		}
	}
}

func wantCounts(t *testing.T, s *sched.Sched, at, skips int, picks ...int) {
	t.Helper()
	if s.At() != at || s.Skips() != skips {
		t.Fatalf("At() = %d, Skips() = %d; want %d, %d", s.At(), s.Skips(), at, skips)
	}
	for agent, want := range picks {
		if got := s.Picks(agent); got != want {
			t.Fatalf("Picks(%d) = %d; want %d", agent, got, want)
		}
	}
}

func TestP4_1NewRefuses(t *testing.T) {
	for _, agents := range []int{math.MinInt, -12, -1, 0, 13, 14, 256, 257, 1 << 32, 1<<32 + 1, math.MaxInt} {
		for _, script := range [][]int{nil, {0, 1}} {
			if s, code := sched.New(agents, script, script); s != nil || code != api.ErrSchedAgents {
				t.Errorf("New(%d) = %v, %d; want nil, ErrSchedAgents", agents, s, code)
			}
		}
	}
}

func TestP4_1AllAreReadyAtFirst(t *testing.T) {
	for agents := 1; agents <= api.MaxAgents; agents++ {
		script := make([]int, agents)
		for i := range script {
			script[i] = agents - 1 - i
		}
		s := newSched(t, agents, script, nil)
		wantCounts(t, s, 0, 0, make([]int, agents)...)
		wantPicks(t, s, script...)
		wantPick(t, s, -1, false)
		for agent := range agents {
			wantCounts(t, s, agents, 0)
			if s.Picks(agent) != 1 {
				t.Errorf("%d agents: Picks(%d) = %d", agents, agent, s.Picks(agent))
			}
		}
	}
}

func TestP4_1ListsAreCopiedAndLeftAlone(t *testing.T) {
	row := []int{0, 1, 2, 7, 8, 9, 5, 6}
	script, inputs := row[0:3:6], row[3:6:6]
	s := newSched(t, 3, script, inputs)
	other := newSched(t, 3, script, inputs)
	wantPicks(t, s, 0)
	wantInputs(t, s, 7)
	for i := range row {
		row[i] = 2
	}
	wantPicks(t, s, 1, 2)
	wantPick(t, s, -1, false)
	wantInputs(t, s, 8, 9, 0)
	for i, x := range row {
		if x != 2 {
			t.Errorf("item %d of what was handed in is %d", i, x)
		}
	}
	wantCounts(t, other, 0, 0, 0, 0, 0)
	wantPicks(t, other, 0, 1, 2)
	wantInputs(t, other, 7, 8, 9, 0)
}

func TestP4_1SpareRoomIsLeftAlone(t *testing.T) {
	script, inputs := []int{0, 1, 55, 66}, []int{7, 77, 88}
	s := newSched(t, 2, script[:2], inputs[:1])
	wantPicks(t, s, 0, 1)
	wantPick(t, s, -1, false)
	wantInputs(t, s, 7, 0, 0)
	if !slices.Equal(script, []int{0, 1, 55, 66}) || !slices.Equal(inputs, []int{7, 77, 88}) {
		t.Errorf("%v, %v", script, inputs)
	}
}

func TestP4_1NilAndEmptyListsAreOne(t *testing.T) {
	for _, list := range [][]int{nil, {}, make([]int, 0, 4)} {
		s := newSched(t, 2, list, list)
		wantPick(t, s, -1, false)
		wantPick(t, s, -1, false)
		wantInputs(t, s, 0, 0)
		wantCounts(t, s, 0, 0, 0, 0)
	}
}

func TestP4_1SetRefusesAndChangesNothing(t *testing.T) {
	s := newSched(t, 3, []int{0, 1, 2}, nil)
	mustSet(t, s, 1, api.AgentBlocked)
	none := []int{math.MinInt, -3, -1, 3, 4, 12, 1 << 32, 1<<32 + 1, math.MaxInt}
	for _, agent := range none {
		for _, state := range []int{-1, api.AgentReady, api.AgentBlocked, api.AgentDead, 3} {
			wantSetRefused(t, s, agent, state)
		}
	}
	for agent := range 3 {
		for _, state := range none {
			wantSetRefused(t, s, agent, state)
		}
	}
	wantCounts(t, s, 0, 0, 0, 0, 0)
	wantPicks(t, s, 0, -1, 2)
}

func wantSetRefused(t *testing.T, s *sched.Sched, agent, state int) {
	t.Helper()
	if code := s.Set(agent, state); code != api.ErrSchedAgent {
		t.Errorf("Set(%d, %d) = %d; want ErrSchedAgent", agent, state, code)
	}
}

func TestP4_1StatesComeAndGo(t *testing.T) {
	s := newSched(t, 2, []int{1, 1, 1, 1, 1, 0}, nil)
	wantPicks(t, s, 1)
	mustSet(t, s, 1, api.AgentBlocked)
	wantPicks(t, s, -1)
	mustSet(t, s, 1, api.AgentBlocked)
	wantPicks(t, s, -1)
	mustSet(t, s, 1, api.AgentReady)
	wantPicks(t, s, 1)
	mustSet(t, s, 1, api.AgentReady)
	wantPicks(t, s, 1, 0)
	wantCounts(t, s, 6, 2, 1, 3)
}

func TestP4_1DeadStaysDead(t *testing.T) {
	s := newSched(t, 3, []int{1, 1, 1, 1, 0, 2, 2}, nil)
	mustSet(t, s, 1, api.AgentDead)
	wantPicks(t, s, -1)
	mustSet(t, s, 1, api.AgentReady)
	wantPicks(t, s, -1)
	mustSet(t, s, 1, api.AgentBlocked)
	mustSet(t, s, 1, api.AgentReady)
	wantPicks(t, s, -1)
	mustSet(t, s, 1, api.AgentDead)
	wantSetRefused(t, s, 1, 3)
	wantSetRefused(t, s, 1, -1)
	mustSet(t, s, 2, api.AgentBlocked)
	mustSet(t, s, 2, api.AgentDead)
	mustSet(t, s, 2, api.AgentReady)
	wantPicks(t, s, -1, 0, -1, -1)
	wantCounts(t, s, 7, 6, 1, 0, 0)
}

// words are those at which a remainder with the word's sign, or of fewer bits, would be told.
var words = []int{
	math.MinInt64, math.MinInt64 + 1, math.MinInt64 + 5, math.MinInt32 - 1, math.MinInt32, -257, -256, -129, -128,
	-25, -24, -23, -13, -12, -11, -3, -2, -1, 0, 1, 2, 3, 11, 12, 13, 127, 128, 255, 256, 257, 65535, 65536,
	math.MaxInt32, math.MaxInt32 + 1, math.MaxUint32, math.MaxUint32 + 1, math.MaxInt64 - 5, math.MaxInt64,
}

func TestP4_2WordModuloAgents(t *testing.T) {
	for agents := 1; agents <= api.MaxAgents; agents++ {
		s := newSched(t, agents, words, nil)
		picks := make([]int, agents)
		for _, word := range words {
			want := int(new(big.Int).Mod(big.NewInt(int64(word)), big.NewInt(int64(agents))).Int64())
			wantPick(t, s, want, true)
			picks[want]++
		}
		wantPick(t, s, -1, false)
		wantCounts(t, s, len(words), 0, picks...)
	}
}

func TestP4_2SkipTakesItsWord(t *testing.T) {
	s := newSched(t, 2, []int{0, 1, -1, 1, 2}, nil)
	mustSet(t, s, 1, api.AgentBlocked)
	wantPicks(t, s, 0)
	wantCounts(t, s, 1, 0, 1, 0)
	wantPicks(t, s, -1)
	wantCounts(t, s, 2, 1, 1, 0)
	wantPicks(t, s, -1)
	wantCounts(t, s, 3, 2, 1, 0)
	mustSet(t, s, 1, api.AgentReady)
	wantPicks(t, s, 1)
	wantCounts(t, s, 4, 2, 1, 1)
	wantPicks(t, s, 0)
	wantCounts(t, s, 5, 2, 2, 1)
}

func TestP4_2TheEndIsNoSkip(t *testing.T) {
	s := newSched(t, 2, []int{1}, nil)
	mustSet(t, s, 0, api.AgentDead)
	wantPicks(t, s, 1)
	for range 3 {
		wantPick(t, s, -1, false)
		wantCounts(t, s, 1, 0, 0, 1)
	}
	mustSet(t, s, 1, api.AgentDead)
	wantPick(t, s, -1, false)
	wantCounts(t, s, 1, 0, 0, 1)
}

func TestP4_2Inputs(t *testing.T) {
	inputs := append([]int{0, 5, 0}, words...)
	s := newSched(t, 1, []int{4}, inputs)
	wantInputs(t, s, inputs...)
	wantInputs(t, s, 0, 0, 0)
	wantCounts(t, s, 0, 0, 0)
	wantPicks(t, s, 0)
	wantPick(t, s, -1, false)
}

func TestP4_2InputsAndPicksApart(t *testing.T) {
	s := newSched(t, 3, []int{2, 1}, []int{8, 9, 10})
	wantPicks(t, s, 2)
	wantInputs(t, s, 8)
	mustSet(t, s, 1, api.AgentBlocked)
	wantInputs(t, s, 9)
	wantPicks(t, s, -1)
	wantPick(t, s, -1, false)
	wantInputs(t, s, 10, 0)
	wantCounts(t, s, 2, 1, 0, 0, 1)
}

func TestP4_2PicksOfNone(t *testing.T) {
	s := newSched(t, 2, []int{0, 1, 0}, nil)
	wantPicks(t, s, 0, 1, 0)
	for _, agent := range []int{math.MinInt, -2, -1, 2, 3, 12, 1 << 32, math.MaxInt} {
		if got := s.Picks(agent); got != 0 {
			t.Errorf("Picks(%d) = %d", agent, got)
		}
	}
	wantCounts(t, s, 3, 0, 2, 1)
}

func wantNothing(t *testing.T, s *sched.Sched) {
	t.Helper()
	for agent := -1; agent <= 1; agent++ {
		if s.Picks(agent) != 0 {
			t.Errorf("Picks(%d) = %d", agent, s.Picks(agent))
		}
	}
	wantInputs(t, s, 0, 0)
	wantCounts(t, s, 0, 0)
}

func TestR3Nil(t *testing.T) {
	var none *sched.Sched
	for agent := -1; agent <= 1; agent++ {
		for state := -1; state <= 3; state++ {
			if code := none.Set(agent, state); code != api.ErrNil {
				t.Errorf("Set(%d, %d) of nil = %d", agent, state, code)
			}
		}
	}
	wantPick(t, none, 0, false)
	wantNothing(t, none)
}

// TestR1NotMadeByNew: one that New did not make has no agent, and its script is over.
func TestR1NotMadeByNew(t *testing.T) {
	s := &sched.Sched{}
	wantSetRefused(t, s, 0, api.AgentReady)
	wantPick(t, s, -1, false)
	wantNothing(t, s)
}

type row uint64

func (r *row) next(below int) int {
	*r = *r*6364136223846793005 + 1442695040888963407
	return int(uint64(*r)>>33) % below
}

// walk holds a script against plain maps over all its words and some beyond, with states that change between.
func walk(t *testing.T, agents int, script []int, inputs []int, r row) {
	s := newSched(t, agents, script, inputs)
	states, picks, skips, taken := map[int]int{}, map[int]int{}, 0, 0
	for i := range len(script) + 5 {
		agent, state := r.next(agents), r.next(3*agents)
		if state <= api.AgentBlocked || state == api.AgentDead && agent > agents/2 {
			mustSet(t, s, agent, state)
			if states[agent] != api.AgentDead {
				states[agent] = state
			}
		}
		if i >= len(script) {
			wantPick(t, s, -1, false)
			continue
		}
		want := (script[i]%agents + agents) % agents
		if states[want] == api.AgentReady {
			picks[want]++
		} else {
			skips, want = skips+1, -1
		}
		wantPick(t, s, want, true)
		if i%3 == 0 && taken < len(inputs) {
			wantInputs(t, s, inputs[taken])
			taken++
		}
	}
	wantCounts(t, s, len(script), skips)
	for agent := range agents {
		if s.Picks(agent) != picks[agent] {
			t.Errorf("Picks(%d) = %d; want %d", agent, s.Picks(agent), picks[agent])
		}
	}
}

func TestP4_2LongWalk(t *testing.T) {
	r := row(7)
	for agents := 1; agents <= api.MaxAgents; agents++ {
		script, inputs := make([]int, api.MaxScript), make([]int, 5000)
		for i := range script {
			script[i] = r.next(1000) - 500
		}
		for i := range inputs {
			inputs[i] = r.next(1000) - 500
		}
		walk(t, agents, script, inputs, r)
	}
}

func TestNoGoroutineIsLeft(t *testing.T) {
	before := runtime.NumGoroutine()
	s := newSched(t, 2, []int{0, 1, 0}, []int{4})
	for range 100 {
		s.Pick()
		s.Input()
	}
	if after := runtime.NumGoroutine(); after > before {
		t.Errorf("%d goroutines, then %d", before, after)
	}
}

func BenchmarkPick(b *testing.B) {
	s, _ := sched.New(12, make([]int, b.N), nil)
	b.ResetTimer()
	for range b.N {
		s.Pick()
	}
}
