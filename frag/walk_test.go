package frag_test

import (
	"math"
	"slices"
	"testing"

	"gneiss/api"
	"gneiss/arena"
	"gneiss/frag"
)

// plain is what a pool ought to be: the fragments that are in use.
type plain struct {
	count  int
	agents int
	used   map[int]*one
}

type one struct {
	colour int
	words  [api.FragWords]int
}

func (p *plain) of(agent, f int) *one {
	if agent < 0 || agent >= p.agents {
		return nil
	}
	return p.used[f]
}

func (p *plain) rising() []int {
	var used []int
	for f := range p.count {
		if p.used[f] != nil {
			used = append(used, f)
		}
	}
	return used
}

// both is a pool beside its plain one.
type both struct {
	arena *arena.Arena
	pool  *frag.Pool
	plain *plain
}

func (b *both) alloc(t *testing.T, agent int) {
	t.Helper()
	switch {
	case agent < 0 || agent >= b.plain.agents:
		wantNoAlloc(t, b.pool, agent, api.ErrFragPlace)
	case len(b.plain.used) == b.plain.count:
		wantNoAlloc(t, b.pool, agent, api.ErrFragNone)
	default:
		f := alloc(t, b.pool, agent)
		if f < 0 || f >= b.plain.count || b.plain.used[f] != nil {
			t.Fatalf("%d was given", f)
		}
		b.plain.used[f] = &one{colour: api.ColourWhite}
	}
}

func (b *both) free(t *testing.T, agent, f int) {
	t.Helper()
	if b.plain.of(agent, f) == nil {
		wantFree(t, b.pool, agent, f, api.ErrFragPlace)
		return
	}
	wantFree(t, b.pool, agent, f, api.OK)
	delete(b.plain.used, f)
}

func (b *both) word(t *testing.T, agent, f, i, v int) {
	t.Helper()
	held := b.plain.of(agent, f)
	if held == nil || i < 0 || i >= api.FragWords {
		wantNoWord(t, b.pool, agent, f, i, api.ErrFragPlace)
		return
	}
	wantWord(t, b.pool, agent, f, i, held.words[i])
	wantStore(t, b.pool, agent, f, i, v)
	held.words[i] = v
}

func (b *both) paint(t *testing.T, agent, f, c int) {
	t.Helper()
	held := b.plain.of(agent, f)
	switch {
	case held == nil:
		wantPaint(t, b.pool, agent, f, c, api.ErrFragPlace)
	case c < api.ColourWhite || c > api.ColourBlack:
		wantPaint(t, b.pool, agent, f, c, api.ErrFragColour)
	default:
		wantPaint(t, b.pool, agent, f, c, api.OK)
		held.colour = c
	}
}

func (b *both) wantSame(t *testing.T) {
	t.Helper()
	before := stepsOf(b.arena)
	wantUsed(t, b.pool, b.plain.rising()...)
	for f := range b.plain.count {
		want := api.ColourFree
		if held := b.plain.used[f]; held != nil {
			want = held.colour
		}
		wantColour(t, b.pool, f, want)
	}
	wantSteps(t, b.arena, before)
	for f, held := range b.plain.used {
		for i, v := range held.words {
			wantWord(t, b.pool, 0, f, i, v)
		}
	}
}

// TestP6_2LongWalks holds pools against plain ones, by turns when few and when many fragments are in use.
func TestP6_2LongWalks(t *testing.T) {
	for _, count := range []int{1, 2, 5, 40, 1000, 1001, 2000} {
		a, p := fitted(t, count, 4)
		b := &both{arena: a, pool: p, plain: &plain{count: count, agents: 4, used: map[int]*one{}}}
		r := row(count)
		for turn := range 30 * 400 {
			agent, f := r.next(4), r.next(count)
			if r.next(10) == 0 {
				agent, f = r.next(6)-1, r.next(count+2)-1
			}
			grows := turn/2000%2 == 0
			switch n := r.next(10); {
			case n < 5 && grows || n < 1:
				b.alloc(t, agent)
			case n < 6:
				b.free(t, agent, f)
			case n < 8:
				b.word(t, agent, f, r.next(10)-1, r.next(1000)-500)
			default:
				b.paint(t, agent, f, r.next(6)-1)
			}
			if turn%400 == 0 {
				b.wantSame(t)
			}
		}
		b.wantSame(t)
	}
}

func TestR3Nil(t *testing.T) {
	var none *frag.Pool
	for _, n := range []int{-1, 0, 12} {
		wantNoAlloc(t, none, n, api.ErrNil)
		wantFree(t, none, n, n, api.ErrNil)
		wantNoWord(t, none, n, n, n, api.ErrNil)
		wantNoColour(t, none, n, api.ErrNil)
		wantPaint(t, none, n, n, n, api.ErrNil)
	}
	wantUsed(t, none)
	for _, at := range [][2]int{{0, 1}, {-1, 1}, {0, 0}, {0, 2001}, {math.MaxInt, 1}} {
		if p, code := frag.New(nil, at[0], at[1]); p != nil || code != api.ErrNil {
			t.Errorf("New(nil, %d, %d) = %v, %d; want nil, ErrNil", at[0], at[1], p, code)
		}
	}
}

func TestR1ObjectsThatNewDidNotMake(t *testing.T) {
	var bare frag.Pool
	for _, n := range []int{-1, 0, 1} {
		wantNoAlloc(t, &bare, n, api.ErrFragPlace)
		wantFree(t, &bare, n, n, api.ErrFragPlace)
		wantNoWord(t, &bare, n, n, n, api.ErrFragPlace)
		wantNoColour(t, &bare, n, api.ErrFragPlace)
		wantPaint(t, &bare, n, n, 1, api.ErrFragPlace)
	}
	wantUsed(t, &bare)
	if p, code := frag.New(&arena.Arena{}, 0, 1); p != nil || code != api.ErrFragSize {
		t.Errorf("New of a bare arena = %v, %d", p, code)
	}
}

// Somebody else writes in the pool's words: then only R1 is promised, but that of all calls.
func TestR1WordsThatOthersWrote(t *testing.T) {
	const count = 7
	r := row(11)
	junk := []int{math.MinInt, math.MinInt + 1, -8, -2, -1, 0, 1, 2, 3, 7, 8, 9, 1 << 40, math.MaxInt - 1, math.MaxInt}
	for range 300 {
		a, p := fitted(t, count, 3)
		for range 100 {
			if r.next(3) == 0 {
				a.Store(r.next(3), r.next(a.Words()), junk[r.next(len(junk))])
			}
			agent, f := r.next(3), r.next(count)
			if f, code := p.Alloc(agent); f < 0 || f >= count || code != api.OK && code != api.ErrFragNone {
				t.Fatalf("Alloc(%d) = %d, %d", agent, f, code)
			}
			p.Free(agent, f)
			p.Store(agent, f, r.next(8), r.next(9))
			p.Load(agent, f, r.next(8))
			p.Paint(agent, f, r.next(4))
			if c, code := p.Colour(f); c < api.ColourFree || c > api.ColourBlack || code != api.OK {
				t.Fatalf("Colour(%d) = %d, %d", f, c, code)
			}
			if used := p.Used(); !slices.IsSorted(used) || len(used) > count {
				t.Fatalf("Used() = %v", used)
			}
		}
	}
}

func TestR4UsedIsTheCallersOwn(t *testing.T) {
	_, p := fitted(t, 5, 1)
	wantAllGiven(t, p, 1, 5)
	wantFree(t, p, 0, 3, api.OK)
	first, second := p.Used(), p.Used()
	first[0], first[2] = 9, 9
	first = append(first[:1], 8, 8, 8)
	if !slices.Equal(second, []int{0, 1, 2, 4}) {
		t.Errorf("two answers share memory: %v, %v", first, second)
	}
	wantUsed(t, p, 0, 1, 2, 4)
	alloc(t, p, 0)
	if !slices.Equal(second, []int{0, 1, 2, 4}) {
		t.Errorf("an answer shares memory with the pool: %v", second)
	}
}
