package legal_test

import (
	"math"
	"slices"
	"sync"
	"testing"

	"gneiss/api"
	"gneiss/legal"
	"gneiss/model"
)

func TestP22_1NoSuchObject(t *testing.T) {
	m := machineOf(t, source{main: "0 1;new 14;pop;new 14;pop;return"}, 2)
	for _, obj := range []int{math.MinInt, -10, -1, 0, 10, 11, 12, 1<<32 + 1, math.MaxInt} {
		wantClear(t, m, obj, api.ErrLegalObject)
		wantQueue(t, m, obj, api.ErrLegalObject)
	}
	through(t, m, 0)
	for obj, code := range map[int]api.Errno{10: api.OK, 11: api.OK, 9: api.ErrLegalReached, 8: api.OK, 12: api.ErrLegalObject} {
		wantClear(t, m, obj, code)
	}
	for obj, code := range map[int]api.Errno{10: api.OK, 11: api.OK, 12: api.ErrLegalObject} {
		wantQueue(t, m, obj, code)
	}
}

// TestP22_1QueueOfWhatIsNotFinal: of all kinds, reached or not, only Final classes' and those below them are queued.
func TestP22_1QueueOfWhatIsNotFinal(t *testing.T) {
	m := machineOf(t, source{main: "1 1;new 0;store 0;new 12;pop;new 13;pop;new 14;pop;new 15;pop;new 16;pop;new 17;pop;new 11;" +
		"pop;int 3;newints;pop;int 3;newrefs;pop;load 0;makeweak;pop;new 4;pop;new 14;store 0;goto 29;map 29 1 0"}, 2)
	steps(t, m, 0, 29)
	finals := []int{13, 14, 15, 22}
	for obj := 1; obj <= m.Objects(); obj++ {
		switch {
		case !slices.Contains(finals, obj):
			wantQueue(t, m, obj, api.ErrLegalObject)
		case obj == 22:
			wantQueue(t, m, obj, api.ErrLegalReached)
		default:
			wantQueue(t, m, obj, api.OK)
		}
	}
	if m.Objects() != 22 {
		t.Errorf("%d objects; want 22", m.Objects())
	}
}

// TestP22_1QueueBehindWeakReferences: as long as any weak reference is not cleared, reached or not, there is no queueing.
func TestP22_1QueueBehindWeakReferences(t *testing.T) {
	m := machineOf(t, source{main: "1 2;new 14;dup;makeweak;pop;dup;makeweak;store 0;pop;new 14;pop;goto 10;map 10 1 0"}, 2)
	steps(t, m, 0, 2)
	wantQueue(t, m, 10, api.ErrLegalReached)
	steps(t, m, 0, 1) // 11, the first weak reference
	wantQueue(t, m, 10, api.ErrLegalObject)
	steps(t, m, 0, 3)
	wantQueue(t, m, 10, api.ErrLegalObject)
	wantClear(t, m, 10, api.ErrLegalReached)
	steps(t, m, 0, 3)
	wantReached(t, m, 12, 13)
	steps(t, m, 0, 1)
	wantReached(t, m, 12)
	wantQueue(t, m, 10, api.ErrLegalObject)
	wantQueue(t, m, 13, api.OK)
	wantClear(t, m, 10, api.OK)
	wantQueue(t, m, 10, api.ErrLegalObject) // to ask changed nothing
	m.Clear(10)
	wantClear(t, m, 10, api.OK)
	wantQueue(t, m, 10, api.OK)
}

// TestP22_1RowOfErrors: a weak reference that came about behind the queueing is told ahead of that, and that ahead of
// being reached.
func TestP22_1RowOfErrors(t *testing.T) {
	m := machineOf(t, source{
		main:     "1 2;new 15;pop;goto 2;map 2 1 0",
		finalize: "1 1;load 0;makeweak;putstatic 11 1;return",
	}, 2)
	steps(t, m, 0, 2)
	m.Queue(10)
	wantQueue(t, m, 10, api.ErrLegalTwice) // it is reached as well
	wantClear(t, m, 10, api.ErrLegalReached)
	steps(t, m, 1, 2)
	wantQueue(t, m, 10, api.ErrLegalTwice)
	steps(t, m, 1, 1)
	wantQueue(t, m, 10, api.ErrLegalObject) // it was queued, and is reached
	through(t, m, 1)
	wantReached(t, m, 11)
	wantQueue(t, m, 10, api.ErrLegalObject)
	wantClear(t, m, 10, api.OK)
	m.Clear(10)
	wantQueue(t, m, 10, api.ErrLegalTwice)
}

// TestP22_1NothingIsChanged: a machine that was asked goes on as one that wasn't.
func TestP22_1NothingIsChanged(t *testing.T) {
	s := source{
		main: "1 2;new 14;dup;makeweak;store 0;pop;load 0;deref;is 14;print;new 15;pop;goto 5;map 5 1 26",
		run:  "1 0;return",
	}
	asked, other := machineOf(t, s, 3), machineOf(t, s, 3)
	for range 60 {
		for obj := range asked.Objects() + 2 {
			first := []api.Errno{legal.Clear(asked, obj), legal.Queue(asked, obj)}
			legal.Reached(asked)
			if got := []api.Errno{legal.Clear(asked, obj), legal.Queue(asked, obj)}; !slices.Equal(got, first) {
				t.Fatalf("of %d first %v, then %v", obj, first, got)
			}
		}
		steps(t, asked, 0, 1)
		steps(t, other, 0, 1)
		if !slices.Equal(asked.Threads(), other.Threads()) || !slices.Equal(asked.Out(), other.Out()) ||
			asked.Objects() != other.Objects() || !slices.Equal(legal.Reached(asked), legal.Reached(other)) {
			t.Fatalf("%v, %v; want %v, %v", asked.Threads(), asked.Out(), other.Threads(), other.Out())
		}
		for obj := range asked.Objects() + 1 {
			got, _ := asked.Field(obj, 0)
			if want, _ := other.Field(obj, 0); got != want {
				t.Fatalf("Field(%d, 0) = %d; want %d", obj, got, want)
			}
		}
	}
}

func TestR3Nil(t *testing.T) {
	if got := legal.Reached(nil); len(got) != 0 {
		t.Errorf("Reached = %v", got)
	}
	for _, obj := range []int{math.MinInt, -1, 0, 1, 8, 10, math.MaxInt} {
		wantClear(t, nil, obj, api.ErrNil)
		wantQueue(t, nil, obj, api.ErrNil)
	}
}

func TestR1AMachineThatNewDidNotMake(t *testing.T) {
	m := &model.Machine{}
	if got := legal.Reached(m); len(got) != 0 {
		t.Errorf("Reached = %v", got)
	}
	for _, obj := range []int{math.MinInt, -1, 0, 1, 8, 10, math.MaxInt} {
		wantClear(t, m, obj, api.ErrLegalObject)
		wantQueue(t, m, obj, api.ErrLegalObject)
	}
}

func TestR4WhatIsAnsweredIsNewMemory(t *testing.T) {
	m := machineOf(t, source{main: "1 1;new 0;store 0;goto 2;map 2 1 16"}, 2)
	steps(t, m, 0, 2)
	first, second := legal.Reached(m), legal.Reached(m)
	clear(first[:cap(first)])
	want := []int{1, 2, 3, 4, 5, 6, 7, 8, 9, 10}
	if got := legal.Reached(m); !slices.Equal(got, want) || !slices.Equal(second, want) {
		t.Errorf("%v, %v; want %v", got, second, want)
	}
	wantClear(t, m, 10, api.ErrLegalReached)
}

// TestR5InGoroutines: a machine may be asked from several goroutines at one time.
func TestR5InGoroutines(t *testing.T) {
	m := machineOf(t, source{main: "1 2;new 17;start;new 14;dup;store 0;enter;goto 6;map 6 1 30"}, 3)
	steps(t, m, 0, 6)
	var all sync.WaitGroup
	for range 8 {
		all.Go(func() {
			for range 100 {
				if got := legal.Reached(m); !slices.Equal(got, []int{1, 2, 3, 4, 5, 6, 7, 8, 9, 10, 11}) ||
					legal.Clear(m, 11) != api.ErrLegalReached || legal.Queue(m, 11) != api.ErrLegalReached {
					t.Errorf("Reached = %v", got)
				}
			}
		})
	}
	all.Wait()
}
