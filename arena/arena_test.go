package arena_test

import (
	"math"
	"testing"

	"gneiss/api"
	"gneiss/arena"
)

// extremes are the ints at which a narrower word would be told from one that holds any int.
var extremes = []int{
	math.MinInt64, math.MinInt64 + 1, math.MinInt32 - 1, math.MinInt32, -1, 0, 1,
	math.MaxInt32, math.MaxInt32 + 1, math.MaxUint32, math.MaxUint32 + 1, math.MaxInt64 - 1, math.MaxInt64,
}

func newArena(t *testing.T, words, agents int) *arena.Arena {
	t.Helper()
	a, code := arena.New(words, agents)
	if a == nil || code != api.OK {
		t.Fatalf("New(%d, %d) = %v, %d", words, agents, a, code)
	}
	return a
}

func wantWord(t *testing.T, a *arena.Arena, at, word int) {
	t.Helper()
	if got, code := a.Load(0, at); got != word || code != api.OK {
		t.Fatalf("Load(0, %d) = %d, %d; want %d, OK", at, got, code, word)
	}
}

func wantSteps(t *testing.T, a *arena.Arena, steps ...int) {
	t.Helper()
	for agent, want := range steps {
		if got := a.Steps(agent); got != want {
			t.Fatalf("Steps(%d) = %d; want %d", agent, got, want)
		}
	}
}

func wantRefused(t *testing.T, a *arena.Arena, agent, at int, want api.Errno) {
	t.Helper()
	if word, code := a.Load(agent, at); word != 0 || code != want {
		t.Errorf("Load(%d, %d) = %d, %d; want 0, %d", agent, at, word, code, want)
	}
	if code := a.Store(agent, at, 9); code != want {
		t.Errorf("Store(%d, %d, 9) = %d; want %d", agent, at, code, want)
	}
	for _, old := range []int{0, 5, 7} {
		if is, code := a.Swap(agent, at, old, 9); is || code != want {
			t.Errorf("Swap(%d, %d, %d, 9) = %v, %d; want false, %d", agent, at, old, is, code, want)
		}
	}
}

func TestP3_1Sizes(t *testing.T) {
	words := map[int]bool{
		math.MinInt: false, -1: false, 0: false, 1: true, 2: true, 1000: true, 65535: true, 65536: true,
		65537: false, 1 << 32: false, 1<<32 + 1: false, math.MaxInt: false,
	}
	agents := map[int]bool{
		math.MinInt: false, -1: false, 0: false, 1: true, 2: true, 11: true, 12: true, 13: false,
		1 << 32: false, 1<<32 + 1: false, math.MaxInt: false,
	}
	for w, wordsFit := range words {
		for g, agentsFit := range agents {
			a, code := arena.New(w, g)
			if !wordsFit || !agentsFit {
				if a != nil || code != api.ErrArenaSize {
					t.Errorf("New(%d, %d) = %v, %d; want nil, ErrArenaSize", w, g, a, code)
				}
				continue
			}
			if a == nil || code != api.OK || a.Words() != w {
				t.Fatalf("New(%d, %d) = %v, %d", w, g, a, code)
			}
			wantRefused(t, a, 0, w, api.ErrArenaPlace)
			wantRefused(t, a, g, 0, api.ErrArenaAgent)
			if code := a.Store(g-1, w-1, 1); code != api.OK {
				t.Errorf("New(%d, %d): the last agent and word: %d", w, g, code)
			}
		}
	}
}

func TestP3_1WordsAreZeroAtFirst(t *testing.T) {
	for _, words := range []int{1, 2, 777, api.MaxWords} {
		a := newArena(t, words, 3)
		wantSteps(t, a, 0, 0, 0)
		for at := range words {
			wantWord(t, a, at, 0)
		}
		wantSteps(t, a, words, 0, 0)
	}
}

func TestP3_1WordHoldsAnyInt(t *testing.T) {
	a := newArena(t, len(extremes), 1)
	for at, x := range extremes {
		if code := a.Store(0, at, x); code != api.OK {
			t.Fatalf("Store(0, %d, %d) = %d", at, x, code)
		}
	}
	for at, x := range extremes {
		wantWord(t, a, at, x)
	}
	for at, x := range extremes {
		next := extremes[(at+1)%len(extremes)]
		if is, code := a.Swap(0, at, next, 3); is || code != api.OK {
			t.Errorf("%d was taken for %d: %v, %d", x, next, is, code)
		}
		if is, code := a.Swap(0, at, x, next); !is || code != api.OK {
			t.Errorf("%d was not taken for itself: %v, %d", x, is, code)
		}
		wantWord(t, a, at, next)
	}
}

func TestP3_1ArenasShareNothing(t *testing.T) {
	a, b := newArena(t, 4, 2), newArena(t, 4, 2)
	a.Store(1, 2, 8)
	wantSteps(t, b, 0, 0)
	wantWord(t, b, 2, 0)
	wantWord(t, a, 2, 8)
	wantSteps(t, a, 1, 1)
}

func TestP3_2LoadStoreSwap(t *testing.T) {
	a := newArena(t, 3, 2)
	if code := a.Store(0, 1, 5); code != api.OK {
		t.Fatalf("Store = %d", code)
	}
	wantWord(t, a, 1, 5)
	if is, code := a.Swap(1, 1, 4, 6); is || code != api.OK {
		t.Errorf("Swap of another word = %v, %d", is, code)
	}
	wantWord(t, a, 1, 5)
	if is, code := a.Swap(1, 1, 5, 6); !is || code != api.OK {
		t.Errorf("Swap = %v, %d", is, code)
	}
	wantWord(t, a, 1, 6)
	if is, code := a.Swap(1, 1, 6, 6); !is || code != api.OK {
		t.Errorf("Swap of a word for itself = %v, %d", is, code)
	}
	wantWord(t, a, 0, 0)
	wantWord(t, a, 1, 6)
	wantWord(t, a, 2, 0)
}

func TestP3_2EachIsOneStep(t *testing.T) {
	a := newArena(t, 2, 3)
	a.Load(1, 0)
	wantSteps(t, a, 0, 1, 0)
	a.Store(1, 0, 5)
	wantSteps(t, a, 0, 2, 0)
	a.Store(1, 0, 5)
	wantSteps(t, a, 0, 3, 0)
	a.Swap(1, 0, 5, 6)
	wantSteps(t, a, 0, 4, 0)
	a.Swap(1, 0, 5, 6)
	wantSteps(t, a, 0, 5, 0)
	a.Load(2, 1)
	wantSteps(t, a, 0, 5, 1)
	a.Words()
	wantSteps(t, a, 0, 5, 1)
}

func TestP3_2RefusedIsNoStepAndChangesNothing(t *testing.T) {
	a := newArena(t, 2, 2)
	a.Store(0, 0, 5)
	a.Store(1, 1, 7)
	for _, agent := range []int{math.MinInt, -1, 2, 3, 12, 1 << 32, math.MaxInt} {
		for _, at := range []int{math.MinInt, -1, 0, 1, 2, 1 << 32, math.MaxInt} {
			wantRefused(t, a, agent, at, api.ErrArenaAgent)
		}
	}
	for _, agent := range []int{0, 1} {
		for _, at := range []int{math.MinInt, -1, 2, 3, 65536, 1 << 32, math.MaxInt} {
			wantRefused(t, a, agent, at, api.ErrArenaPlace)
		}
	}
	wantSteps(t, a, 1, 1)
	wantWord(t, a, 0, 5)
	wantWord(t, a, 1, 7)
	if a.Words() != 2 {
		t.Errorf("Words() = %d", a.Words())
	}
}

func TestP3_2StepsOfNone(t *testing.T) {
	a := newArena(t, 1, 12)
	for agent := range 12 {
		for range agent + 1 {
			a.Load(agent, 0)
		}
	}
	wantSteps(t, a, 1, 2, 3, 4, 5, 6, 7, 8, 9, 10, 11, 12)
	for _, agent := range []int{math.MinInt, -1, 12, 13, 1 << 32, math.MaxInt} {
		if steps := a.Steps(agent); steps != 0 {
			t.Errorf("Steps(%d) = %d", agent, steps)
		}
	}
}

func TestP3_2Nil(t *testing.T) {
	var none *arena.Arena
	for _, agent := range []int{-1, 0, 1} {
		wantRefused(t, none, agent, -1, api.ErrNil)
		wantRefused(t, none, agent, 0, api.ErrNil)
		if none.Steps(agent) != 0 {
			t.Error("steps of a nil arena")
		}
	}
	if none.Words() != 0 {
		t.Error("words of a nil arena")
	}
}

type row uint64

func (r *row) next(below int) int {
	*r = *r*6364136223846793005 + 1442695040888963407
	return int(uint64(*r)>>33) % below
}

// TestP3_2LongWalk holds an arena against plain maps over many accesses, refused ones among them.
func TestP3_2LongWalk(t *testing.T) {
	const words, agents = 50, 5
	a := newArena(t, words, agents)
	held, steps := map[int]int{}, map[int]int{}
	r := row(11)
	for range 50000 {
		agent, at, x, old := r.next(agents+2)-1, r.next(words+2)-1, r.next(3), r.next(3)
		code := api.OK
		if at < 0 || at >= words {
			code = api.ErrArenaPlace
		}
		if agent < 0 || agent >= agents {
			code = api.ErrArenaAgent
		}
		if code == api.OK {
			steps[agent]++
		}
		switch r.next(3) {
		case 0:
			if got, e := a.Load(agent, at); e != code || got != held[at] && code == api.OK || got != 0 && code != api.OK {
				t.Fatalf("Load(%d, %d) = %d, %d", agent, at, got, e)
			}
		case 1:
			if e := a.Store(agent, at, x); e != code {
				t.Fatalf("Store(%d, %d, %d) = %d", agent, at, x, e)
			}
			if code == api.OK {
				held[at] = x
			}
		case 2:
			is, e := a.Swap(agent, at, old, x)
			if e != code || is != (code == api.OK && held[at] == old) {
				t.Fatalf("Swap(%d, %d, %d, %d) = %v, %d", agent, at, old, x, is, e)
			}
			if is {
				held[at] = x
			}
		}
	}
	for agent := range agents {
		if a.Steps(agent) != steps[agent] {
			t.Errorf("Steps(%d) = %d; want %d", agent, a.Steps(agent), steps[agent])
		}
	}
	for at := range words {
		wantWord(t, a, at, held[at])
	}
}

// TestAccessTakesNoRoom: layers 5 to 25 come down to these calls, so that a view made for each must cost nothing.
func TestAccessTakesNoRoom(t *testing.T) {
	a := newArena(t, 8, 1)
	rooms := testing.AllocsPerRun(100, func() {
		a.Store(0, 3, 4)
		a.Swap(0, 3, 4, 5)
		a.Load(0, 3)
	})
	if rooms != 0 {
		t.Errorf("%v allocations for three accesses", rooms)
	}
}
