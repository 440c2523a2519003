package monitor_test

import (
	"math"
	"testing"

	"gneiss/api"
	"gneiss/monitor"
)

func newTable(t *testing.T, threads int) *monitor.Table {
	t.Helper()
	m, code := monitor.New(threads)
	if m == nil || code != api.OK {
		t.Fatalf("New(%d) = %v, %d", threads, m, code)
	}
	return m
}

func wantEnter(t *testing.T, m *monitor.Table, thread, obj int, want bool) {
	t.Helper()
	if is, code := m.Enter(thread, obj); is != want || code != api.OK {
		t.Fatalf("Enter(%d, %d) = %v, %d; want %v, OK", thread, obj, is, code, want)
	}
}

func enterDeep(t *testing.T, m *monitor.Table, thread, obj, deep int) {
	t.Helper()
	for range deep {
		wantEnter(t, m, thread, obj, true)
	}
}

func mustLeave(t *testing.T, m *monitor.Table, thread, obj int) {
	t.Helper()
	if code := m.Leave(thread, obj); code != api.OK {
		t.Fatalf("Leave(%d, %d) = %d", thread, obj, code)
	}
}

func mustWait(t *testing.T, m *monitor.Table, thread, obj int) {
	t.Helper()
	if code := m.Wait(thread, obj); code != api.OK {
		t.Fatalf("Wait(%d, %d) = %d", thread, obj, code)
	}
}

func wantNotified(t *testing.T, m *monitor.Table, thread, obj int, all bool, want int) {
	t.Helper()
	if count, code := m.Notify(thread, obj, all); count != want || code != api.OK {
		t.Fatalf("Notify(%d, %d, %v) = %d, %d; want %d, OK", thread, obj, all, count, code, want)
	}
}

func wantOwner(t *testing.T, m *monitor.Table, obj, thread, deep int) {
	t.Helper()
	if gotThread, gotDeep := m.Owner(obj); gotThread != thread || gotDeep != deep {
		t.Fatalf("Owner(%d) = %d, %d; want %d, %d", obj, gotThread, gotDeep, thread, deep)
	}
}

func wantStates(t *testing.T, m *monitor.Table, states ...int) {
	t.Helper()
	for thread, want := range states {
		if state := m.State(thread); state != want {
			t.Fatalf("State(%d) = %d; want %d", thread, state, want)
		}
	}
}

// wantRefused holds that every call of the thread that may be refused answers just the code.
func wantRefused(t *testing.T, m *monitor.Table, thread, obj int, want api.Errno) {
	t.Helper()
	if code := m.Leave(thread, obj); code != want {
		t.Fatalf("Leave(%d, %d) = %d; want %d", thread, obj, code, want)
	}
	if code := m.Wait(thread, obj); code != want {
		t.Fatalf("Wait(%d, %d) = %d; want %d", thread, obj, code, want)
	}
	for _, all := range []bool{false, true} {
		if count, code := m.Notify(thread, obj, all); count != 0 || code != want {
			t.Fatalf("Notify(%d, %d, %v) = %d, %d; want 0, %d", thread, obj, all, count, code, want)
		}
	}
}

func wantEnterRefused(t *testing.T, m *monitor.Table, thread, obj int, want api.Errno) {
	t.Helper()
	if is, code := m.Enter(thread, obj); is || code != want {
		t.Fatalf("Enter(%d, %d) = %v, %d; want false, %d", thread, obj, is, code, want)
	}
}

// objs is numbers that name monitors: any do.
var objs = []int{0, 1, -1, 7, math.MinInt32, math.MaxInt32, 1 << 32, 1<<32 + 7, math.MinInt, math.MaxInt}

func TestP20_1NewRefuses(t *testing.T) {
	for _, threads := range []int{math.MinInt, -8, -1, 0, 9, 10, 12, 256, 257, 1 << 32, 1<<32 + 1, math.MaxInt} {
		if m, code := monitor.New(threads); m != nil || code != api.ErrMonitorThread {
			t.Errorf("New(%d) = %v, %d; want nil, ErrMonitorThread", threads, m, code)
		}
	}
}

func TestP20_1AllReadyAndFreeAtFirst(t *testing.T) {
	for threads := 1; threads <= api.MaxThreads; threads++ {
		m := newTable(t, threads)
		for thread := range threads {
			wantStates(t, m, make([]int, threads)...)
			for _, obj := range objs {
				wantOwner(t, m, obj, -1, 0)
				wantRefused(t, m, thread, obj, api.ErrMonitorOwner)
			}
		}
	}
}

func TestP20_1NoSuchThread(t *testing.T) {
	for threads := 1; threads <= api.MaxThreads; threads++ {
		m := newTable(t, threads)
		wantEnter(t, m, 0, 5, true)
		for _, thread := range []int{-1, threads, threads + 1, 8, 1 << 32, math.MinInt, math.MaxInt} {
			wantEnterRefused(t, m, thread, 5, api.ErrMonitorThread)
			wantEnterRefused(t, m, thread, 6, api.ErrMonitorThread)
			wantRefused(t, m, thread, 5, api.ErrMonitorThread)
			wantRefused(t, m, thread, 6, api.ErrMonitorThread)
			if state := m.State(thread); state != api.ThreadReady {
				t.Fatalf("State(%d) = %d; want ThreadReady", thread, state)
			}
		}
		wantOwner(t, m, 5, 0, 1)
		wantOwner(t, m, 6, -1, 0)
	}
}

func TestP20_1EnterAndLeave(t *testing.T) {
	for threads := 1; threads <= api.MaxThreads; threads++ {
		m := newTable(t, threads)
		for i, obj := range objs {
			thread := i % threads
			for deep := 1; deep <= 5; deep++ {
				wantEnter(t, m, thread, obj, true)
				wantOwner(t, m, obj, thread, deep)
			}
		}
		for i, obj := range objs {
			thread := i % threads
			for deep := 4; deep >= 1; deep-- {
				mustLeave(t, m, thread, obj)
				wantOwner(t, m, obj, thread, deep)
			}
			mustLeave(t, m, thread, obj)
			wantOwner(t, m, obj, -1, 0)
			wantRefused(t, m, thread, obj, api.ErrMonitorOwner)
		}
		wantStates(t, m, make([]int, threads)...)
	}
}

func TestP20_1EnterOfAnothers(t *testing.T) {
	m := newTable(t, 3)
	enterDeep(t, m, 1, 7, 2)
	for range 3 {
		wantEnter(t, m, 0, 7, false)
		wantStates(t, m, api.ThreadEntering, api.ThreadReady, api.ThreadReady)
		wantOwner(t, m, 7, 1, 2)
		wantRefused(t, m, 0, 7, api.ErrMonitorOwner)
	}
	mustLeave(t, m, 1, 7)
	wantEnter(t, m, 0, 7, false)
	mustLeave(t, m, 1, 7)
	wantStates(t, m, api.ThreadEntering)
	wantOwner(t, m, 7, -1, 0)
	wantEnter(t, m, 2, 7, true) // who asked first has no right to be first
	wantEnter(t, m, 0, 7, false)
	mustLeave(t, m, 2, 7)
	wantEnter(t, m, 0, 7, true)
	wantOwner(t, m, 7, 0, 1)
	wantStates(t, m, api.ThreadReady, api.ThreadReady, api.ThreadReady)
}

func TestP20_1EnteringThreadMayDoOtherThings(t *testing.T) {
	m := newTable(t, 2)
	enterDeep(t, m, 0, 1, 2)
	wantEnter(t, m, 1, 2, true)
	wantEnter(t, m, 1, 1, false)
	mustLeave(t, m, 1, 2)
	wantOwner(t, m, 2, -1, 0)
	wantStates(t, m, api.ThreadReady, api.ThreadEntering)
	wantEnter(t, m, 1, 2, true)
	wantStates(t, m, api.ThreadReady, api.ThreadReady)
	wantEnter(t, m, 1, 1, false)
	wantNotified(t, m, 1, 2, true, 0)
	wantStates(t, m, api.ThreadReady, api.ThreadEntering)
	wantEnter(t, m, 1, 2, true)
	wantOwner(t, m, 2, 1, 2)
	wantStates(t, m, api.ThreadReady, api.ThreadReady)
	wantEnter(t, m, 1, 1, false)
	mustWait(t, m, 1, 2)
	wantStates(t, m, api.ThreadReady, api.ThreadWaiting)
	wantOwner(t, m, 2, -1, 0)
}

func TestP20_1EnterTooDeep(t *testing.T) {
	m := newTable(t, 2)
	enterDeep(t, m, 0, 3, 1000)
	wantEnter(t, m, 1, 4, true)
	for range 3 {
		wantEnterRefused(t, m, 0, 3, api.ErrMonitorDeep)
		wantOwner(t, m, 3, 0, 1000)
	}
	wantEnter(t, m, 1, 3, false)
	wantEnter(t, m, 0, 4, false)
	wantEnterRefused(t, m, 0, 3, api.ErrMonitorDeep)
	wantStates(t, m, api.ThreadEntering, api.ThreadEntering)
	mustLeave(t, m, 0, 3)
	wantEnter(t, m, 0, 3, true)
	wantOwner(t, m, 3, 0, 1000)
	mustWait(t, m, 0, 3)
	wantEnterRefused(t, m, 0, 3, api.ErrMonitorThread)
	wantEnter(t, m, 1, 3, true)
	wantNotified(t, m, 1, 3, false, 1)
	mustLeave(t, m, 1, 3)
	wantEnter(t, m, 0, 3, true)
	wantOwner(t, m, 3, 0, 1000)
	wantEnterRefused(t, m, 0, 3, api.ErrMonitorDeep)
	for range 1000 {
		mustLeave(t, m, 0, 3)
	}
	wantOwner(t, m, 3, -1, 0)
}

func TestP20_1WaitFreesItAndTheThreadDoesNoMore(t *testing.T) {
	m := newTable(t, 2)
	enterDeep(t, m, 0, 7, 3)
	enterDeep(t, m, 0, 8, 2)
	mustWait(t, m, 0, 7)
	wantOwner(t, m, 7, -1, 0)
	wantOwner(t, m, 8, 0, 2)
	for _, obj := range []int{7, 8, 9} {
		wantEnterRefused(t, m, 0, obj, api.ErrMonitorThread)
		wantRefused(t, m, 0, obj, api.ErrMonitorThread)
	}
	wantStates(t, m, api.ThreadWaiting, api.ThreadReady)
	wantEnter(t, m, 1, 7, true)
	wantEnter(t, m, 1, 8, false)
	wantOwner(t, m, 7, 1, 1)
	wantOwner(t, m, 8, 0, 2)
	wantOwner(t, m, 9, -1, 0)
}

func TestP20_1BackFromAWaitAsDeepAsItWas(t *testing.T) {
	for _, deep := range []int{1, 2, 3, 10, 999, 1000} {
		m := newTable(t, 2)
		enterDeep(t, m, 0, 7, deep)
		mustWait(t, m, 0, 7)
		wantEnter(t, m, 1, 7, true)
		wantNotified(t, m, 1, 7, true, 1)
		wantStates(t, m, api.ThreadEntering, api.ThreadReady)
		wantEnter(t, m, 0, 7, false)
		wantStates(t, m, api.ThreadEntering, api.ThreadReady)
		mustLeave(t, m, 1, 7)
		wantRefused(t, m, 0, 7, api.ErrMonitorOwner)
		wantOwner(t, m, 7, -1, 0)
		wantEnter(t, m, 0, 7, true)
		wantOwner(t, m, 7, 0, deep)
		wantStates(t, m, api.ThreadReady, api.ThreadReady)
		for range deep {
			mustLeave(t, m, 0, 7)
		}
		wantOwner(t, m, 7, -1, 0)
		wantEnter(t, m, 0, 7, true) // it comes from no wait any more
		wantOwner(t, m, 7, 0, 1)
	}
}

func TestP20_1OnlyOfWhatItWaitedFor(t *testing.T) {
	m := newTable(t, 3)
	enterDeep(t, m, 0, 7, 4)
	mustWait(t, m, 0, 7)
	wantEnter(t, m, 1, 7, true)
	wantNotified(t, m, 1, 7, false, 1)
	wantOwner(t, m, 7, 1, 1) // another's depth is its own
	wantEnter(t, m, 0, 8, true)
	wantOwner(t, m, 8, 0, 1)
	wantStates(t, m, api.ThreadReady)
	mustLeave(t, m, 1, 7)
	wantEnter(t, m, 2, 7, true)
	wantOwner(t, m, 7, 2, 1)
	mustLeave(t, m, 2, 7)
	wantEnter(t, m, 0, 7, true)
	wantOwner(t, m, 7, 0, 4)
	wantEnter(t, m, 0, 7, true)
	wantOwner(t, m, 7, 0, 5)
}

func TestP20_1BackFromWaitsOfTwo(t *testing.T) {
	m := newTable(t, 2)
	enterDeep(t, m, 0, 7, 4)
	enterDeep(t, m, 0, 8, 3)
	mustWait(t, m, 0, 7)
	wantEnter(t, m, 1, 7, true)
	wantNotified(t, m, 1, 7, false, 1)
	mustWait(t, m, 0, 8)
	wantEnter(t, m, 1, 8, true)
	wantNotified(t, m, 1, 7, true, 0)
	wantNotified(t, m, 1, 8, true, 1)
	mustLeave(t, m, 1, 7)
	mustLeave(t, m, 1, 8)
	wantEnter(t, m, 0, 7, true)
	wantOwner(t, m, 7, 0, 4)
	wantEnter(t, m, 0, 8, true)
	wantOwner(t, m, 8, 0, 3)
}

func TestP20_1NotifyTheOneThatWaitedLongest(t *testing.T) {
	order := []int{5, 2, 7, 1, 6, 3, 4}
	m := newTable(t, 8)
	for _, thread := range order {
		enterDeep(t, m, thread, -3, thread)
		mustWait(t, m, thread, -3)
	}
	wantEnter(t, m, 0, -3, true)
	for i, thread := range order {
		wantNotified(t, m, 0, -3, false, 1)
		wantStates(t, m, api.ThreadReady)
		for place, waiter := range order {
			want := api.ThreadWaiting
			if place <= i {
				want = api.ThreadEntering
			}
			if state := m.State(waiter); state != want {
				t.Fatalf("after %d: State(%d) = %d; want %d", thread, waiter, state, want)
			}
		}
	}
	wantNotified(t, m, 0, -3, false, 0)
	wantNotified(t, m, 0, -3, true, 0)
	mustLeave(t, m, 0, -3)
	for _, thread := range []int{4, 1, 7, 2, 3, 6, 5} {
		wantEnter(t, m, thread, -3, true)
		wantOwner(t, m, -3, thread, thread)
		for range thread {
			mustLeave(t, m, thread, -3)
		}
	}
}

func TestP20_1WaitingAgainStandsLast(t *testing.T) {
	m := newTable(t, 3)
	for _, thread := range []int{0, 1} {
		wantEnter(t, m, thread, 7, true)
		mustWait(t, m, thread, 7)
	}
	wantEnter(t, m, 2, 7, true)
	wantNotified(t, m, 2, 7, false, 1)
	mustLeave(t, m, 2, 7)
	wantEnter(t, m, 0, 7, true)
	mustWait(t, m, 0, 7)
	wantEnter(t, m, 2, 7, true)
	wantNotified(t, m, 2, 7, false, 1)
	wantStates(t, m, api.ThreadWaiting, api.ThreadEntering, api.ThreadReady)
	wantNotified(t, m, 2, 7, false, 1)
	wantStates(t, m, api.ThreadEntering, api.ThreadEntering, api.ThreadReady)
}

func TestP20_1NotifyAllOfThatMonitorAlone(t *testing.T) {
	for waiting := range api.MaxThreads {
		m := newTable(t, api.MaxThreads)
		last := api.MaxThreads - 1
		here := 0
		for thread := range waiting {
			obj := thread % 2
			here += 1 - obj
			wantEnter(t, m, thread, obj, true)
			mustWait(t, m, thread, obj)
		}
		wantEnter(t, m, last, 0, true)
		wantNotified(t, m, last, 0, true, here)
		for thread := range waiting {
			want := []int{api.ThreadEntering, api.ThreadWaiting}[thread%2]
			if state := m.State(thread); state != want {
				t.Fatalf("State(%d) = %d; want %d", thread, state, want)
			}
		}
		wantEnter(t, m, last, 1, true)
		wantNotified(t, m, last, 1, true, waiting-here)
		wantOwner(t, m, 0, last, 1)
		wantOwner(t, m, 1, last, 1)
	}
}

func TestP20_1NotifyIsOnlyTheOwners(t *testing.T) {
	m := newTable(t, 3)
	wantEnter(t, m, 0, 7, true)
	mustWait(t, m, 0, 7)
	wantRefused(t, m, 1, 7, api.ErrMonitorOwner) // it is free
	wantEnter(t, m, 2, 7, true)
	wantRefused(t, m, 1, 7, api.ErrMonitorOwner) // it is another's
	wantEnter(t, m, 1, 8, true)
	wantRefused(t, m, 1, 7, api.ErrMonitorOwner) // another one is its own
	wantNotified(t, m, 1, 8, true, 0)
	wantStates(t, m, api.ThreadWaiting, api.ThreadReady, api.ThreadReady)
	wantOwner(t, m, 7, 2, 1)
}

func TestP20_1TablesAreTheirOwn(t *testing.T) {
	a, b := newTable(t, 2), newTable(t, 2)
	wantEnter(t, a, 0, 7, true)
	wantOwner(t, b, 7, -1, 0)
	wantEnter(t, b, 1, 7, true)
	mustWait(t, b, 1, 7)
	wantStates(t, a, api.ThreadReady, api.ThreadReady)
	wantNotified(t, a, 0, 7, true, 0)
	wantStates(t, b, api.ThreadReady, api.ThreadWaiting)
}

func TestLeaveAll(t *testing.T) {
	m := newTable(t, 3)
	leaveAll := func(thread int, want api.Errno) {
		t.Helper()
		if code := m.LeaveAll(thread); code != want {
			t.Fatalf("LeaveAll(%d) = %d; want %d", thread, code, want)
		}
	}
	for _, obj := range objs {
		enterDeep(t, m, 0, obj, 3)
	}
	enterDeep(t, m, 1, 100, 2)
	wantEnter(t, m, 1, 7, false)
	for _, thread := range []int{-1, 3, math.MinInt, math.MaxInt} {
		leaveAll(thread, api.ErrMonitorThread)
	}
	leaveAll(2, api.OK)
	wantOwner(t, m, 7, 0, 3)
	leaveAll(0, api.OK)
	for _, obj := range objs {
		wantOwner(t, m, obj, -1, 0)
	}
	wantOwner(t, m, 100, 1, 2)
	wantStates(t, m, api.ThreadReady, api.ThreadEntering, api.ThreadReady)
	leaveAll(1, api.OK) // it enters still
	wantOwner(t, m, 100, -1, 0)
	wantStates(t, m, api.ThreadReady, api.ThreadEntering, api.ThreadReady)
	wantEnter(t, m, 1, 7, true)
	wantEnter(t, m, 1, 8, true)
	mustWait(t, m, 1, 7)
	leaveAll(1, api.ErrMonitorThread)
	wantOwner(t, m, 8, 1, 1)
}

// TestCopy holds that neither goes the other's way, in any of what a table keeps.
func TestCopy(t *testing.T) {
	m := newTable(t, 4)
	enterDeep(t, m, 0, 7, 3)
	mustWait(t, m, 0, 7)
	enterDeep(t, m, 1, 7, 2)
	mustWait(t, m, 1, 7)
	wantEnter(t, m, 2, 7, true)
	wantEnter(t, m, 3, 7, false)
	other := m.Copy()
	wantStates(t, other, api.ThreadWaiting, api.ThreadWaiting, api.ThreadReady, api.ThreadEntering)
	wantOwner(t, other, 7, 2, 1)
	wantNotified(t, other, 2, 7, true, 2)
	wantEnter(t, other, 2, 8, true)
	mustLeave(t, other, 2, 7)
	wantEnter(t, other, 1, 7, true)
	wantOwner(t, other, 7, 1, 2)
	wantStates(t, m, api.ThreadWaiting, api.ThreadWaiting, api.ThreadReady, api.ThreadEntering)
	wantOwner(t, m, 7, 2, 1)
	wantOwner(t, m, 8, -1, 0)
	wantNotified(t, m, 2, 7, false, 1)
	wantEnter(t, m, 2, 9, true)
	mustLeave(t, m, 2, 7)
	wantEnter(t, m, 0, 7, true)
	wantOwner(t, m, 7, 0, 3)
	wantOwner(t, other, 7, 1, 2)
	wantOwner(t, other, 9, -1, 0)
	wantStates(t, other, api.ThreadEntering, api.ThreadReady, api.ThreadReady, api.ThreadEntering)
}

func TestP20_1ManyMonitors(t *testing.T) {
	const many = 200_000
	m := newTable(t, 2)
	for obj := range many {
		wantEnter(t, m, obj%2, obj, true)
	}
	wantOwner(t, m, many-1, 1, 1)
	for obj := range many {
		mustLeave(t, m, obj%2, obj)
	}
	wantOwner(t, m, many-1, -1, 0)
	for obj := range many {
		wantEnter(t, m, 0, obj, true)
		mustWait(t, m, 0, obj)
		wantEnter(t, m, 1, obj, true)
		wantNotified(t, m, 1, obj, false, 1)
		mustLeave(t, m, 1, obj)
		wantEnter(t, m, 0, obj, true)
		mustLeave(t, m, 0, obj)
	}
}

func TestR3NoTable(t *testing.T) {
	var none *monitor.Table
	for _, thread := range []int{-1, 0, 1, 9} {
		wantEnterRefused(t, none, thread, 7, api.ErrNil)
		wantRefused(t, none, thread, 7, api.ErrNil)
		if state := none.State(thread); state != 0 {
			t.Errorf("State(%d) = %d", thread, state)
		}
	}
	wantOwner(t, none, 7, 0, 0)
	if none.LeaveAll(0) != api.ErrNil || none.Copy() != nil {
		t.Errorf("LeaveAll = %d, Copy = %v", none.LeaveAll(0), none.Copy())
	}
}

func TestR1TableWithoutThreads(t *testing.T) {
	var m monitor.Table
	wantEnterRefused(t, &m, 0, 7, api.ErrMonitorThread)
	wantRefused(t, &m, 0, 7, api.ErrMonitorThread)
	wantOwner(t, &m, 7, -1, 0)
	wantStates(t, &m, api.ThreadReady)
	if code := m.Copy().LeaveAll(0); code != api.ErrMonitorThread {
		t.Errorf("LeaveAll = %d", code)
	}
}
