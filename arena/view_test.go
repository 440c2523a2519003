package arena_test

import (
	"math"
	"testing"

	"gneiss/api"
	"gneiss/arena"
)

type tagged struct {
	tag   int
	place int
}

const places = 100

func readTagged(word int) tagged {
	return tagged{tag: word / places, place: word % places}
}

func (x tagged) word() int {
	return x.tag*places + x.place
}

func isSet(word int) bool {
	return word != 0
}

func set(is bool) int {
	if is {
		return 1
	}
	return 0
}

func TestViewOfStructs(t *testing.T) {
	a := newArena(t, 2, 2)
	view := arena.ViewOf(a, readTagged, tagged.word)
	if got, code := view.Load(0, 1); got != (tagged{}) || code != api.OK {
		t.Errorf("Load = %v, %d", got, code)
	}
	if code := view.Store(0, 1, tagged{3, 7}); code != api.OK {
		t.Errorf("Store = %d", code)
	}
	wantWord(t, a, 1, 307)
	if is, code := view.Swap(1, 1, tagged{2, 7}, tagged{4, 8}); is || code != api.OK {
		t.Errorf("Swap that comes too late = %v, %d", is, code)
	}
	wantWord(t, a, 1, 307)
	if is, code := view.Swap(1, 1, tagged{3, 7}, tagged{4, 8}); !is || code != api.OK {
		t.Errorf("Swap = %v, %d", is, code)
	}
	if got, code := view.Load(1, 1); got != (tagged{4, 8}) || code != api.OK {
		t.Errorf("Load = %v, %d", got, code)
	}
	wantSteps(t, a, 4, 3)
	wantWord(t, a, 0, 0)
}

func TestViewOfBools(t *testing.T) {
	a := newArena(t, 3, 1)
	view := arena.ViewOf(a, isSet, set)
	view.Store(0, 2, true)
	if is, code := view.Load(0, 2); !is || code != api.OK {
		t.Errorf("Load = %v, %d", is, code)
	}
	if is, code := view.Swap(0, 1, true, false); is || code != api.OK {
		t.Errorf("Swap = %v, %d", is, code)
	}
	a.Store(0, 0, -5)
	if is, code := view.Load(0, 0); !is || code != api.OK {
		t.Errorf("Load of a word that is not the view's = %v, %d", is, code)
	}
}

func wantViewRefused(t *testing.T, view arena.View[tagged], agent, at int, want api.Errno) {
	t.Helper()
	if got, code := view.Load(agent, at); got != (tagged{}) || code != want {
		t.Errorf("Load(%d, %d) = %v, %d; want %d", agent, at, got, code, want)
	}
	if code := view.Store(agent, at, tagged{1, 1}); code != want {
		t.Errorf("Store(%d, %d) = %d; want %d", agent, at, code, want)
	}
	if is, code := view.Swap(agent, at, tagged{}, tagged{1, 1}); is || code != want {
		t.Errorf("Swap(%d, %d) = %v, %d; want %d", agent, at, is, code, want)
	}
}

func TestViewRefuses(t *testing.T) {
	a := newArena(t, 2, 2)
	view := arena.ViewOf(a, readTagged, tagged.word)
	wantViewRefused(t, view, 2, 2, api.ErrArenaAgent)
	wantViewRefused(t, view, -1, 0, api.ErrArenaAgent)
	wantViewRefused(t, view, 1, 2, api.ErrArenaPlace)
	wantViewRefused(t, view, 0, -1, api.ErrArenaPlace)
	wantViewRefused(t, arena.View[tagged]{}, 0, 0, api.ErrNil)
	wantViewRefused(t, arena.ViewOf(nil, readTagged, tagged.word), -1, -1, api.ErrNil)
	wantViewRefused(t, arena.ViewOf(a, nil, tagged.word), 0, 0, api.ErrNil)
	wantViewRefused(t, arena.ViewOf(a, readTagged, nil), 0, 0, api.ErrNil)
	wantSteps(t, a, 0, 0)
	wantWord(t, a, 0, 0)
	wantWord(t, a, 1, 0)
}

func TestViewPeekAndPokeAreNoSteps(t *testing.T) {
	a := newArena(t, 3, 2)
	view := arena.ViewOf(a, readTagged, tagged.word)
	if code := view.Poke(1, tagged{3, 7}); code != api.OK {
		t.Errorf("Poke = %d", code)
	}
	if got, code := view.Peek(1); got != (tagged{3, 7}) || code != api.OK {
		t.Errorf("Peek = %v, %d", got, code)
	}
	if got, code := view.Peek(2); got != (tagged{}) || code != api.OK {
		t.Errorf("Peek = %v, %d", got, code)
	}
	wantSteps(t, a, 0, 0)
	wantWord(t, a, 0, 0)
	wantWord(t, a, 1, 307)
	wantWord(t, a, 2, 0)
}

func wantPeekRefused(t *testing.T, view arena.View[tagged], at int, want api.Errno) {
	t.Helper()
	if got, code := view.Peek(at); got != (tagged{}) || code != want {
		t.Errorf("Peek(%d) = %v, %d; want %d", at, got, code, want)
	}
	if code := view.Poke(at, tagged{1, 1}); code != want {
		t.Errorf("Poke(%d) = %d; want %d", at, code, want)
	}
}

func TestViewPeekAndPokeRefuse(t *testing.T) {
	a := newArena(t, 2, 2)
	view := arena.ViewOf(a, readTagged, tagged.word)
	for _, at := range []int{math.MinInt, -1, 2, 3, math.MaxInt} {
		wantPeekRefused(t, view, at, api.ErrArenaPlace)
	}
	wantPeekRefused(t, arena.View[tagged]{}, 0, api.ErrNil)
	wantPeekRefused(t, arena.ViewOf(nil, readTagged, tagged.word), -1, api.ErrNil)
	wantPeekRefused(t, arena.ViewOf(a, nil, tagged.word), 0, api.ErrNil)
	wantPeekRefused(t, arena.ViewOf(&arena.Arena{}, readTagged, tagged.word), 0, api.ErrArenaPlace)
	wantWord(t, a, 0, 0)
	wantWord(t, a, 1, 0)
}

func TestHasAgent(t *testing.T) {
	for agents := 1; agents <= api.MaxAgents; agents++ {
		a := newArena(t, 1, agents)
		for _, agent := range []int{math.MinInt, -1, 0, agents - 1, agents, agents + 1, math.MaxInt} {
			if got, want := a.HasAgent(agent), agent == 0 || agent == agents-1; got != want {
				t.Errorf("of %d agents: HasAgent(%d) = %v", agents, agent, got)
			}
		}
	}
	var none *arena.Arena
	if none.HasAgent(0) || (&arena.Arena{}).HasAgent(0) {
		t.Error("there is an agent where there is none")
	}
}
