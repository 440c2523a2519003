package frag_test

import (
	"math"
	"slices"
	"testing"

	"gneiss/api"
	"gneiss/arena"
	"gneiss/frag"
)

// row is a fixed row of numbers.
type row uint64

func (r *row) next(below int) int {
	*r = *r*6364136223846793005 + 1442695040888963407
	return int(uint64(*r) >> 33 % uint64(below))
}

func newArena(t *testing.T, words, agents int) *arena.Arena {
	t.Helper()
	a, code := arena.New(words, agents)
	if a == nil || code != api.OK {
		t.Fatalf("arena.New(%d, %d) = %v, %d", words, agents, a, code)
	}
	return a
}

func newPool(t *testing.T, a *arena.Arena, base, count int) *frag.Pool {
	t.Helper()
	p, code := frag.New(a, base, count)
	if p == nil || code != api.OK {
		t.Fatalf("New(%d, %d) = %v, %d", base, count, p, code)
	}
	return p
}

// room is how many words a pool of so many fragments may take.
func room(count int) int {
	return 14*count + 64
}

// fitted is a pool in an arena that holds nothing else.
func fitted(t *testing.T, count, agents int) (*arena.Arena, *frag.Pool) {
	t.Helper()
	a := newArena(t, room(count), agents)
	return a, newPool(t, a, 0, count)
}

func fill(a *arena.Arena, word func(at int) int) {
	for at := range a.Words() {
		a.Store(0, at, word(at))
	}
}

func stepsOf(a *arena.Arena) []int {
	all := make([]int, api.MaxAgents)
	for agent := range all {
		all[agent] = a.Steps(agent)
	}
	return all
}

func wantSteps(t *testing.T, a *arena.Arena, want []int) {
	t.Helper()
	if got := stepsOf(a); !slices.Equal(got, want) {
		t.Fatalf("the agents' steps are %v; want %v", got, want)
	}
}

// wantOneStep is wantSteps, but that the agent has done one more.
func wantOneStep(t *testing.T, a *arena.Arena, agent int, before []int) {
	t.Helper()
	want := slices.Clone(before)
	want[agent]++
	wantSteps(t, a, want)
}

func alloc(t *testing.T, p *frag.Pool, agent int) int {
	t.Helper()
	f, code := p.Alloc(agent)
	if code != api.OK {
		t.Fatalf("Alloc(%d) = %d, %d", agent, f, code)
	}
	wantColour(t, p, f, api.ColourWhite)
	for i := range api.FragWords {
		wantWord(t, p, agent, f, i, 0)
	}
	return f
}

func wantNoAlloc(t *testing.T, p *frag.Pool, agent int, want api.Errno) {
	t.Helper()
	if f, code := p.Alloc(agent); f != 0 || code != want {
		t.Fatalf("Alloc(%d) = %d, %d; want 0, %d", agent, f, code, want)
	}
}

func wantFree(t *testing.T, p *frag.Pool, agent, f int, want api.Errno) {
	t.Helper()
	if code := p.Free(agent, f); code != want {
		t.Fatalf("Free(%d, %d) = %d; want %d", agent, f, code, want)
	}
}

func wantStore(t *testing.T, p *frag.Pool, agent, f, i, v int) {
	t.Helper()
	if code := p.Store(agent, f, i, v); code != api.OK {
		t.Fatalf("Store(%d, %d, %d, %d) = %d", agent, f, i, v, code)
	}
}

func wantWord(t *testing.T, p *frag.Pool, agent, f, i, want int) {
	t.Helper()
	if got, code := p.Load(agent, f, i); got != want || code != api.OK {
		t.Fatalf("Load(%d, %d, %d) = %d, %d; want %d, OK", agent, f, i, got, code, want)
	}
}

func wantNoWord(t *testing.T, p *frag.Pool, agent, f, i int, want api.Errno) {
	t.Helper()
	if got, code := p.Load(agent, f, i); got != 0 || code != want {
		t.Fatalf("Load(%d, %d, %d) = %d, %d; want 0, %d", agent, f, i, got, code, want)
	}
	if code := p.Store(agent, f, i, 9); code != want {
		t.Fatalf("Store(%d, %d, %d, 9) = %d; want %d", agent, f, i, code, want)
	}
}

func wantColour(t *testing.T, p *frag.Pool, f, want int) {
	t.Helper()
	if got, code := p.Colour(f); got != want || code != api.OK {
		t.Fatalf("Colour(%d) = %d, %d; want %d, OK", f, got, code, want)
	}
}

func wantNoColour(t *testing.T, p *frag.Pool, f int, want api.Errno) {
	t.Helper()
	if got, code := p.Colour(f); got != 0 || code != want {
		t.Fatalf("Colour(%d) = %d, %d; want 0, %d", f, got, code, want)
	}
}

func wantPaint(t *testing.T, p *frag.Pool, agent, f, c int, want api.Errno) {
	t.Helper()
	if code := p.Paint(agent, f, c); code != want {
		t.Fatalf("Paint(%d, %d, %d) = %d; want %d", agent, f, c, code, want)
	}
}

func wantUsed(t *testing.T, p *frag.Pool, want ...int) {
	t.Helper()
	if got := p.Used(); !slices.Equal(got, want) {
		t.Fatalf("Used() = %v; want %v", got, want)
	}
}

// upTo is the numbers from 0 to count - 1.
func upTo(count int) []int {
	all := make([]int, count)
	for i := range all {
		all[i] = i
	}
	return all
}

// wantAllGiven allocates till none is free: each is given once.
func wantAllGiven(t *testing.T, p *frag.Pool, agents, count int) {
	t.Helper()
	var given []int
	for i := range count {
		given = append(given, alloc(t, p, i%agents))
	}
	slices.Sort(given)
	if !slices.Equal(given, upTo(count)) {
		t.Fatalf("of %d fragments %v were given", count, given)
	}
	wantNoAlloc(t, p, 0, api.ErrFragNone)
	wantUsed(t, p, given...)
}

func TestP6_1NewRefuses(t *testing.T) {
	const words = 28100
	a := newArena(t, words, 2)
	fill(a, func(at int) int { return at })
	before := stepsOf(a)
	for _, count := range []int{
		math.MinInt, -2000, -1, 0, 2001, 2002, 1 << 32, 1<<32 + 1, math.MinInt / 14, math.MaxInt / 14, math.MaxInt/14 + 1,
		math.MinInt/14 - 4, 1<<60 + 1, math.MaxInt,
	} {
		for _, base := range []int{0, 5, -1, words} {
			if p, code := frag.New(a, base, count); p != nil || code != api.ErrFragSize {
				t.Errorf("New(%d, %d) = %v, %d; want nil, ErrFragSize", base, count, p, code)
			}
		}
	}
	for _, count := range []int{1, 2, 7, 1000, 1001, 1999, 2000} {
		last := words - room(count)
		for _, base := range []int{
			math.MinInt, -1 << 32, -room(count), -1, last + 1, last + 2, words, words + 1, 1<<32 + 1,
			math.MaxInt - room(count), math.MaxInt - room(count) + 1, math.MaxInt,
		} {
			if p, code := frag.New(a, base, count); p != nil || code != api.ErrFragSize {
				t.Errorf("New(%d, %d) = %v, %d; want nil, ErrFragSize", base, count, p, code)
			}
		}
	}
	wantSteps(t, a, before)
	for at := range words {
		if word, _ := a.Load(0, at); word != at {
			t.Fatalf("a New that was refused made word %d %d", at, word)
		}
	}
	for _, count := range []int{1, 2, 7, 1000, 1001, 1999, 2000} {
		for _, base := range []int{0, 1, words - room(count) - 1, words - room(count)} {
			wantAllGiven(t, newPool(t, a, base, count), 2, count)
		}
	}
}

func TestP6_1TheLeastArenas(t *testing.T) {
	for _, count := range []int{1, 2, 3, 999, 1000, 1001, 2000} {
		for _, words := range []int{1, room(count) - 1} {
			if p, code := frag.New(newArena(t, words, 1), 0, count); p != nil || code != api.ErrFragSize {
				t.Errorf("%d words: New(0, %d) = %v, %d; want nil, ErrFragSize", words, count, p, code)
			}
		}
		newPool(t, newArena(t, room(count), 1), 0, count)
	}
	wantAllGiven(t, newPool(t, newArena(t, api.MaxWords, 12), api.MaxWords-room(2000), 2000), 12, 2000)
}

func TestP6_1AllFreeWhateverTheWordsWere(t *testing.T) {
	const agents = 3
	for _, count := range []int{1, 5, 1003} {
		for _, junk := range []int{math.MinInt, -7, -1, 0, 1, 2, 3, 4, 5, 1024, math.MaxInt} {
			a := newArena(t, room(count)+20, agents)
			fill(a, func(int) int { return junk })
			before := stepsOf(a)
			p := newPool(t, a, 10, count)
			wantUsed(t, p)
			for f := range count {
				wantColour(t, p, f, api.ColourFree)
			}
			wantSteps(t, a, before)
			wantFree(t, p, 0, 0, api.ErrFragPlace)
			wantAllGiven(t, p, agents, count)
		}
	}
}

func TestP6_1ANewOneOverAnOldOneIsFree(t *testing.T) {
	a, p := fitted(t, 4, 1)
	alloc(t, p, 0)
	wantPaint(t, p, 0, alloc(t, p, 0), api.ColourBlack, api.OK)
	p = newPool(t, a, 0, 4)
	wantUsed(t, p)
	wantAllGiven(t, p, 1, 4)
}

func TestP6_1KeepsToItsWords(t *testing.T) {
	for _, count := range []int{1, 2, 30, 1000, 1001, 2000} {
		base, mark := 50, func(at int) int { return -at*1000 - 1 }
		a := newArena(t, base+room(count)+50, 4)
		fill(a, mark)
		p := newPool(t, a, base, count)
		for range 2 {
			wantAllGiven(t, p, 4, count)
			for f := range count {
				for i := range api.FragWords {
					wantStore(t, p, f%4, f, i, math.MaxInt-f)
				}
				wantPaint(t, p, 3, f, api.ColourBlack, api.OK)
			}
			for f := range count {
				wantFree(t, p, f%4, f, api.OK)
			}
		}
		for at := range a.Words() {
			word, _ := a.Load(0, at)
			if (at < base || at >= base+frag.Room(count)) && word != mark(at) {
				t.Fatalf("count %d: word %d is %d; it was %d", count, at, word, mark(at))
			}
		}
	}
}

// A pool never lies in more words than New asks for.
func TestP6_1RoomIsWithinItsWords(t *testing.T) {
	for count := 1; count <= 2000; count++ {
		if got := frag.Room(count); got < api.FragWords*count || got > room(count) {
			t.Fatalf("Room(%d) = %d; New asks for %d", count, got, room(count))
		}
	}
	for _, count := range []int{math.MinInt, -1, 0, math.MaxInt} {
		frag.Room(count)
	}
}

func TestP6_1SideBySide(t *testing.T) {
	const count = 9
	a := newArena(t, 3*room(count), 2)
	var all []*frag.Pool
	for i := range 3 {
		all = append(all, newPool(t, a, i*room(count), count))
	}
	for _, p := range all {
		wantAllGiven(t, p, 2, count)
	}
	for i, p := range all {
		for f := range count {
			wantStore(t, p, 1, f, i, 100*i+f)
		}
		wantPaint(t, p, 0, i, api.ColourGrey+i%2, api.OK)
		wantFree(t, p, 0, i+3, api.OK)
	}
	for i, p := range all {
		wantColour(t, p, i, api.ColourGrey+i%2)
		wantColour(t, p, i+3, api.ColourFree)
		wantUsed(t, p, slices.Delete(upTo(count), i+3, i+4)...)
		for _, f := range p.Used() {
			wantWord(t, p, 0, f, i, 100*i+f)
		}
	}
}

func TestP6_2AllocTillNoneIsFree(t *testing.T) {
	for _, count := range []int{1, 2, 3, 255, 999, 1000, 1001, 1999, 2000} {
		a, p := fitted(t, count, 3)
		for range 2 {
			wantAllGiven(t, p, 3, count)
			before := stepsOf(a)
			for agent := range 3 {
				wantNoAlloc(t, p, agent, api.ErrFragNone)
			}
			wantSteps(t, a, before)
			wantUsed(t, p, upTo(count)...)
			for f := range count {
				wantFree(t, p, f%3, (f+count/2)%count, api.OK)
			}
			wantUsed(t, p)
		}
	}
}

func TestP6_2TheOneThatIsFreeIsGiven(t *testing.T) {
	for _, count := range []int{1, 6, 1002, 2000} {
		_, p := fitted(t, count, 2)
		wantAllGiven(t, p, 2, count)
		for _, f := range []int{0, count / 2, count - 1, min(999, count-1), min(1000, count-1)} {
			wantFree(t, p, 1, f, api.OK)
			wantUsed(t, p, slices.Delete(upTo(count), f, f+1)...)
			if got := alloc(t, p, 0); got != f {
				t.Errorf("of %d fragments %d was free; %d was given", count, f, got)
			}
			wantNoAlloc(t, p, 1, api.ErrFragNone)
		}
	}
}

func TestHasAgent(t *testing.T) {
	for _, agents := range []int{1, 3, 12} {
		_, p := fitted(t, 2, agents)
		for _, agent := range []int{math.MinInt, -1, 0, agents - 1, agents, 12, 1 << 32, math.MaxInt} {
			if got, want := p.HasAgent(agent), agent == 0 || agent == agents-1; got != want {
				t.Errorf("of %d agents: HasAgent(%d) = %v", agents, agent, got)
			}
		}
	}
	var none *frag.Pool
	if none.HasAgent(0) || (&frag.Pool{}).HasAgent(0) {
		t.Error("nothing has an agent")
	}
}

func TestHasFree(t *testing.T) {
	for _, count := range []int{1, 2, 999, 1000, 1001, 2000} {
		a, p := fitted(t, count, 2)
		for free := count; free >= 0; free-- {
			before := stepsOf(a)
			for _, n := range []int{math.MinInt, -1, 0, free - 1, free, free + 1, math.MaxInt} {
				if got, want := p.HasFree(n), n <= free; got != want {
					t.Fatalf("of %d, %d are free: HasFree(%d) = %v", count, free, n, got)
				}
			}
			wantSteps(t, a, before)
			if free > 0 {
				alloc(t, p, free%2)
			}
		}
		wantFree(t, p, 1, count-1, api.OK)
		if !p.HasFree(1) || p.HasFree(2) {
			t.Errorf("of %d, one is free: HasFree(1) = %v, HasFree(2) = %v", count, p.HasFree(1), p.HasFree(2))
		}
	}
	var none *frag.Pool
	if none.HasFree(0) || none.HasFree(1) || (&frag.Pool{}).HasFree(1) {
		t.Error("nothing has a free fragment")
	}
}

func TestP6_2AgentsThatAreNone(t *testing.T) {
	for _, agents := range []int{1, 3, 12} {
		a, p := fitted(t, 3, agents)
		f := alloc(t, p, agents-1)
		wantStore(t, p, 0, f, 2, 8)
		before := stepsOf(a)
		for _, agent := range []int{math.MinInt, -1 << 32, -1, agents, agents + 1, 13, 1 << 32, math.MaxInt} {
			wantNoAlloc(t, p, agent, api.ErrFragPlace)
			wantFree(t, p, agent, f, api.ErrFragPlace)
			wantNoWord(t, p, agent, f, 2, api.ErrFragPlace)
			wantPaint(t, p, agent, f, api.ColourGrey, api.ErrFragPlace)
			wantPaint(t, p, agent, f, api.ColourFree, api.ErrFragPlace)
		}
		wantSteps(t, a, before)
		wantUsed(t, p, f)
		wantColour(t, p, f, api.ColourWhite)
		wantWord(t, p, 0, f, 2, 8)
		alloc(t, p, 0)
		alloc(t, p, 0)
		for _, agent := range []int{-1, agents} {
			wantNoAlloc(t, p, agent, api.ErrFragPlace)
		}
		wantNoAlloc(t, p, 0, api.ErrFragNone)
	}
}

func TestP6_2FragmentsThatAreNotInUse(t *testing.T) {
	a, p := fitted(t, 5, 2)
	var used []int
	for range 3 {
		used = append(used, alloc(t, p, 1))
	}
	wantFree(t, p, 0, used[1], api.OK)
	used = slices.Delete(used, 1, 2)
	slices.Sort(used)
	outside := []int{math.MinInt, -1 << 61, -1 << 32, -5, -1, 5, 6, 13, 2000, 1 << 32, 1<<32 + used[0], 1<<61 + used[0], math.MaxInt}
	inside := slices.DeleteFunc(upTo(5), func(f int) bool { return slices.Contains(used, f) })
	before := stepsOf(a)
	for _, f := range append(outside, inside...) {
		wantFree(t, p, 0, f, api.ErrFragPlace)
		for _, i := range []int{-1, 0, 7, 8} {
			wantNoWord(t, p, 0, f, i, api.ErrFragPlace)
		}
		for _, c := range []int{-1, api.ColourFree, api.ColourWhite, api.ColourGrey, api.ColourBlack, 4} {
			wantPaint(t, p, 0, f, c, api.ErrFragPlace)
		}
	}
	for _, f := range outside {
		wantNoColour(t, p, f, api.ErrFragPlace)
	}
	for _, f := range inside {
		wantColour(t, p, f, api.ColourFree)
	}
	wantSteps(t, a, before)
	wantUsed(t, p, used...)
	for range 3 {
		alloc(t, p, 0)
	}
	wantNoAlloc(t, p, 0, api.ErrFragNone)
}

func TestP6_2WordsThatAreNone(t *testing.T) {
	a, p := fitted(t, 3, 2)
	wantAllGiven(t, p, 2, 3)
	for f := range 3 {
		for i := range api.FragWords {
			wantStore(t, p, 0, f, i, 10*f+i)
		}
	}
	before := stepsOf(a)
	for f := range 3 {
		for _, i := range []int{math.MinInt, -1 << 32, -8, -1, 8, 9, 16, 1 << 32, math.MaxInt} {
			wantNoWord(t, p, 1, f, i, api.ErrFragPlace)
		}
	}
	wantSteps(t, a, before)
	for f := range 3 {
		for i := range api.FragWords {
			wantWord(t, p, 1, f, i, 10*f+i)
		}
	}
}

func TestP6_2LoadAndStoreAreOneStep(t *testing.T) {
	a, p := fitted(t, 1500, 3)
	wantAllGiven(t, p, 3, 1500)
	values := []int{math.MinInt, math.MinInt32 - 1, -1, 0, 1, math.MaxInt32 + 1, math.MaxInt}
	for _, f := range []int{0, 1, 999, 1000, 1499} {
		for i := range api.FragWords {
			for n, v := range values {
				agent, before := n%3, stepsOf(a)
				wantStore(t, p, agent, f, i, v)
				wantOneStep(t, a, agent, before)
				before = stepsOf(a)
				wantWord(t, p, 2-agent, f, i, v)
				wantOneStep(t, a, 2-agent, before)
			}
			wantStore(t, p, 0, f, i, 0)
		}
	}
}

func TestP6_2ColoursAndUsedAreNobodysSteps(t *testing.T) {
	a, p := fitted(t, 3, 2)
	wantPaint(t, p, 1, alloc(t, p, 0), api.ColourGrey, api.OK)
	before := stepsOf(a)
	for f := range 3 {
		p.Colour(f)
	}
	p.Used()
	wantSteps(t, a, before)
}

func TestP6_2FragmentsShareNoWords(t *testing.T) {
	const count = 1200
	_, p := fitted(t, count, 2)
	wantAllGiven(t, p, 2, count)
	for f := range count {
		for i := range api.FragWords {
			wantStore(t, p, i%2, f, i, 100*f+i+1)
		}
		wantPaint(t, p, 0, f, api.ColourWhite+f%3, api.OK)
	}
	for f := 0; f < count; f += 2 {
		wantFree(t, p, 1, f, api.OK)
	}
	for f := 0; f < count; f += 4 {
		alloc(t, p, 0)
	}
	for f := 1; f < count; f += 2 {
		wantColour(t, p, f, api.ColourWhite+f%3)
		for i := range api.FragWords {
			wantWord(t, p, 0, f, i, 100*f+i+1)
		}
	}
}

func TestP6_2Paint(t *testing.T) {
	a, p := fitted(t, 4, 2)
	f, g := alloc(t, p, 0), alloc(t, p, 0)
	for i := range api.FragWords {
		wantStore(t, p, 1, f, i, i+1)
	}
	colours := []int{api.ColourWhite, api.ColourGrey, api.ColourBlack}
	for _, from := range colours {
		for _, to := range colours {
			wantPaint(t, p, 0, f, from, api.OK)
			before := stepsOf(a)
			for _, c := range []int{
				math.MinInt, -1 << 32, -1, api.ColourFree, 4, 5, 1 << 32, 1<<32 + 1, 1<<62 + 1, math.MaxInt,
			} {
				wantPaint(t, p, 1, f, c, api.ErrFragColour)
			}
			wantSteps(t, a, before)
			wantColour(t, p, f, from)
			wantPaint(t, p, 1, f, to, api.OK)
			wantColour(t, p, f, to)
			wantColour(t, p, g, api.ColourWhite)
		}
	}
	for i := range api.FragWords {
		wantWord(t, p, 0, f, i, i+1)
	}
	wantUsed(t, p, min(f, g), max(f, g))
}

func TestP6_2WhatIsGivenAgainIsWhiteAndZero(t *testing.T) {
	_, p := fitted(t, 1, 2)
	for _, c := range []int{api.ColourWhite, api.ColourGrey, api.ColourBlack} {
		f := alloc(t, p, 0)
		for i := range api.FragWords {
			wantStore(t, p, 0, f, i, -1-i)
		}
		wantPaint(t, p, 0, f, c, api.OK)
		wantFree(t, p, 1, f, api.OK)
		wantColour(t, p, f, api.ColourFree)
		wantFree(t, p, 1, f, api.ErrFragPlace)
	}
}
