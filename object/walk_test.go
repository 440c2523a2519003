package object_test

import (
	"math"
	"slices"
	"testing"

	"gneiss/api"
	"gneiss/arena"
	"gneiss/frag"
	"gneiss/object"
)

// walk does one thing that a fixed row of numbers says; few of them are wrong.
func (b *both) walk(r *row, grows bool) {
	b.t.Helper()
	agent, ref := r.next(agents), 0
	if refs := b.refs(); len(refs) > 0 {
		ref = refs[r.next(len(refs))]
	}
	switch what := r.next(10); {
	case what < 4 && grows || what < 1:
		b.make(agent, r.next(most+1))
	case what < 3:
		if ref > 0 {
			b.drop(agent, ref)
		}
	case ref == 0:
		b.wantNone(r.next(b.count + 2))
	default:
		n := len(b.held[ref])
		i := r.next(n+2) - 1
		if i < 0 || i >= n {
			b.wantNoField(agent, ref, i, api.ErrObjectBounds)
			return
		}
		b.put(agent, ref, i, r.next(200)-100)
		b.load(r.next(agents), ref, i)
	}
}

// TestP8_2LongWalks holds stores against plain ones, by turns when few and when many fragments are in use.
func TestP8_2LongWalks(t *testing.T) {
	for _, count := range []int{1, 2, 5, 12, 40, 300, 1100} {
		b := bothOf(t, count)
		r := row(count)
		for turn := range 6000 {
			b.walk(&r, turn/1500%2 == 0)
			if turn%100 == 0 {
				b.wantSame()
			}
		}
		b.wantSame()
		for _, ref := range b.refs() {
			b.drop(r.next(agents), ref)
		}
		if used := b.p.Used(); len(used) != 0 {
			t.Errorf("of %d fragments, %v are in use", count, used)
		}
	}
}

// wantRefuses tells what each call of s answers that has an error to answer.
func wantRefuses(t *testing.T, s *object.Store, want api.Errno) {
	t.Helper()
	for _, n := range []int{-1, 0, 1, 65, math.MaxInt} {
		if ref, code := s.Make(n, n); ref != 0 || code != want {
			t.Errorf("Make(%d, %d) = %d, %d; want 0, %d", n, n, ref, code, want)
		}
		if v, code := s.Load(n, n, n); v != 0 || code != want {
			t.Errorf("Load(%d, %d, %d) = %d, %d; want 0, %d", n, n, n, v, code, want)
		}
		if code := s.Put(n, n, n, n); code != want {
			t.Errorf("Put(%d, %d, %d, %d) = %d; want %d", n, n, n, n, code, want)
		}
		if size, code := s.Size(n); size != 0 || code != want {
			t.Errorf("Size(%d) = %d, %d; want 0, %d", n, size, code, want)
		}
		if code := s.Free(n, n); code != want {
			t.Errorf("Free(%d, %d) = %d; want %d", n, n, code, want)
		}
	}
	if refs := s.Refs(); len(refs) != 0 {
		t.Errorf("Refs() = %v", refs)
	}
}

func TestR3Nil(t *testing.T) {
	wantRefuses(t, nil, api.ErrNil)
}

func TestR1ObjectsThatNewDidNotMake(t *testing.T) {
	wantRefuses(t, &object.Store{}, api.ErrObjectRef)
	s, code := object.New(&frag.Pool{})
	if s == nil || code != api.OK {
		t.Fatalf("New of a bare pool = %v, %d", s, code)
	}
	wantRefuses(t, s, api.ErrObjectRef)
}

// wantKnown tells that code is one that may be answered.
func wantKnown(t *testing.T, what string, code api.Errno, known ...api.Errno) {
	t.Helper()
	if code != api.OK && !slices.Contains(known, code) {
		t.Fatalf("%s = %d", what, code)
	}
}

// useAll calls all methods with what may be there.
func useAll(t *testing.T, s *object.Store, r *row) {
	t.Helper()
	agent := r.next(2)
	ref, code := s.Make(agent, r.next(most+1))
	wantKnown(t, "Make", code, api.ErrObjectNone)
	if refs := s.Refs(); len(refs) > 0 && r.next(4) > 0 {
		ref = refs[r.next(len(refs))]
	}
	i := r.next(most)
	wantKnown(t, "Put", s.Put(agent, ref, i, r.next(40)-2), api.ErrObjectRef, api.ErrObjectBounds)
	v, code := s.Load(agent, ref, i)
	wantKnown(t, "Load", code, api.ErrObjectRef, api.ErrObjectBounds)
	if code != api.OK && v != 0 {
		t.Fatalf("Load = %d, %d", v, code)
	}
	if r.next(3) == 0 {
		wantKnown(t, "Free", s.Free(agent, ref), api.ErrObjectRef)
		if n, code := s.Size(ref); n != 0 || code != api.ErrObjectRef {
			t.Fatalf("Size of what was freed = %d, %d", n, code)
		}
	}
}

// Somebody else writes in the words of the pool, or in its fragments, or frees them: then only R1 is promised, but that
// of all calls.
func TestR1WordsThatOthersWrote(t *testing.T) {
	const count = 30
	r := row(11)
	junk := []int{math.MinInt, math.MinInt + 1, -8, -1, 0, 1, 2, 7, 8, 29, 30, 31, 1 << 40, math.MaxInt - 1, math.MaxInt}
	for range 300 {
		a, _ := arena.New(14*count+64, 2)
		p, _ := frag.New(a, 0, count)
		s, _ := object.New(p)
		for range 100 {
			switch r.next(8) {
			case 0:
				a.Store(0, r.next(a.Words()), junk[r.next(len(junk))])
			case 1:
				p.Store(0, r.next(count), 0, junk[r.next(len(junk))])
			case 2:
				p.Free(1, r.next(count))
			}
			useAll(t, s, &r)
		}
	}
}

// A chain that leads back to itself, or to no fragment, comes to an end.
func TestR1ChainsThatOthersBroke(t *testing.T) {
	for _, to := range []int{math.MinInt, -1, 0, 1, 5, 8, 39, 40, math.MaxInt} {
		b := bothOf(t, 40)
		ref := b.make(0, most)
		for _, f := range b.p.Used() {
			for word := range api.FragWords {
				b.p.Store(0, f, word, to)
			}
		}
		for i := range most {
			before := b.steps()
			v, code := b.s.Load(1, ref, i)
			wantKnown(t, "Load", code, api.ErrObjectRef)
			if code != api.OK && v != 0 {
				t.Fatalf("Load = %d, %d", v, code)
			}
			if done := b.a.Steps(1) - before[1]; done > stepsMost(most) {
				t.Fatalf("Load did %d steps", done)
			}
		}
		if code := b.s.Free(1, ref); code != api.OK || len(b.s.Refs()) != 0 {
			t.Fatalf("Free = %d, and there are %v", code, b.s.Refs())
		}
	}
}

func TestR4RefsAreTheCallersOwn(t *testing.T) {
	b := bothOf(t, 20)
	for range 4 {
		b.make(0, 3)
	}
	first, second, want := b.s.Refs(), b.s.Refs(), b.refs()
	first[0], first[2] = 99, 99
	first = append(first[:1], 98, 98, 98)
	if !slices.Equal(second, want) {
		t.Errorf("two answers share memory: %v, %v", first, second)
	}
	b.wantSame()
	b.drop(0, want[1])
	if !slices.Equal(second, want) {
		t.Errorf("an answer shares memory with the store: %v", second)
	}
}
