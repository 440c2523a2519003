package legal_test

import (
	"testing"

	"gneiss/api"
)

// TestP22_1Threads: a thread that is under way is reached, with all that it holds, whoever names it.
func TestP22_1Threads(t *testing.T) {
	m := machineOf(t, source{
		main: "0 2;new 17;dup;start;pop;new 17;pop;new 18;start;new 9;start;goto 10;map 10 0",
		run:  "2 3;new 0;store 1;load 0;new 12;putfield 17 0;null;store 0;new 0;return",
	}, 8)
	steps(t, m, 0, 4)
	wantReached(t, m, 10)
	steps(t, m, 0, 1)
	wantReached(t, m, 10, 11) // never started
	steps(t, m, 0, 1)
	wantReached(t, m, 10)
	steps(t, m, 0, 1)
	wantReached(t, m, 10, 12)
	steps(t, m, 0, 1) // ended at once, since it has no run of its own; so will ClassThread's be
	wantReached(t, m, 10)
	wantState(t, m, 3, api.ThreadEnded)
	steps(t, m, 0, 3)
	wantReached(t, m, 10)
	wantState(t, m, 4, api.ThreadEnded)
	steps(t, m, 2, 5)
	wantReached(t, m, 10, 14, 15)
	steps(t, m, 2, 3)
	wantReached(t, m, 10, 14, 15, 16)
	steps(t, m, 2, 1)
	wantState(t, m, 2, api.ThreadEnded)
	wantReached(t, m)
}

// TestP22_1FailedThreads hold nothing, nor do they hold themselves; who names them does.
func TestP22_1FailedThreads(t *testing.T) {
	m := machineOf(t, source{
		main: "0 2;new 17;start;new 17;dup;start;putstatic 11 2;new 0;null;throw",
		run:  "2 3;new 0;store 1;new 12;callstatic 11 1;pop;return",
		more: "method own 1 0 1 2;new 0;store 0;new 0;null;throw",
	}, 8)
	steps(t, m, 0, 6)
	steps(t, m, 2, 8)
	wantReached(t, m, 10, 11, 12, 13, 14, 15)
	steps(t, m, 2, 1)
	wantState(t, m, 2, api.ThreadFailed)
	wantReached(t, m, 11)
	through(t, m, 3)
	wantState(t, m, 3, api.ThreadFailed)
	wantReached(t, m, 11)
	through(t, m, 0)
	wantState(t, m, 0, api.ThreadFailed)
	wantReached(t, m, 11)
}

// TestP22_1Waiting: 10 is waited for, then entered, by the worker 11, which names it nowhere any more; it is reached up to
// when the worker has it again.
func TestP22_1Waiting(t *testing.T) {
	m := machineOf(t, source{
		main: "1 2;new 12;dup;putstatic 11 1;store 0;new 17;start;load 0;enter;load 0;notify;" +
			"null;putstatic 11 1;load 0;leave;null;store 0;goto 16;map 16 1 28",
		run: "1 3;getstatic 11 1;dup;enter;wait;null;store 0;goto 6;map 6 1 33",
	}, 3)
	steps(t, m, 0, 6)
	steps(t, m, 2, 4)
	wantState(t, m, 2, api.ThreadWaiting)
	steps(t, m, 0, 4)
	wantState(t, m, 2, api.ThreadEntering)
	wantReached(t, m, 10, 11)
	steps(t, m, 0, 4)
	wantReached(t, m, 10, 11)
	steps(t, m, 0, 2)
	wantReached(t, m, 10, 11) // main holds it no more
	steps(t, m, 2, 1)         // the worker owns it: this doesn't hold it
	wantState(t, m, 2, api.ThreadReady)
	wantReached(t, m, 11)
	steps(t, m, 2, 3)
	wantReached(t, m, 11)
}

// TestP22_1WaitingForWhatNobodyNames, and nobody will notify.
func TestP22_1WaitingForWhatNobodyNames(t *testing.T) {
	m := machineOf(t, source{main: "0 4;new 12;dup;dup;new 0;putfield 12 1;enter;wait;return"}, 2)
	steps(t, m, 0, 6)
	wantReached(t, m, 10, 11)
	steps(t, m, 0, 1)
	wantState(t, m, 0, api.ThreadWaiting)
	wantReached(t, m, 10, 11)
}

// TestP22_1Owned: a monitor that is owned, and nothing more, holds nothing.
func TestP22_1Owned(t *testing.T) {
	m := machineOf(t, source{main: "0 1;new 12;enter;goto 2;map 2 0"}, 2)
	steps(t, m, 0, 1)
	wantReached(t, m, 10)
	steps(t, m, 0, 1)
	wantReached(t, m)
	wantClear(t, m, 10, api.OK)
}

// TestP22_1Entering: what another owns is on the stack of who enters it.
func TestP22_1Entering(t *testing.T) {
	m := machineOf(t, source{
		main: "0 3;new 12;dup;enter;dup;putstatic 11 1;new 17;start;null;putstatic 11 1;leave;goto 10;map 10 0",
		run:  "1 1;getstatic 11 1;enter;null;store 0;return",
	}, 3)
	steps(t, m, 0, 7)
	steps(t, m, 2, 2)
	wantState(t, m, 2, api.ThreadEntering)
	steps(t, m, 0, 2)
	wantReached(t, m, 10, 11)
	steps(t, m, 0, 1)
	wantState(t, m, 2, api.ThreadEntering) // it may enter now
	wantReached(t, m, 10, 11)
	steps(t, m, 2, 1)
	wantReached(t, m, 11)
}

// TestP22_1Joining: who is joined is reached up to when it is joined, though it has ended.
func TestP22_1Joining(t *testing.T) {
	m := machineOf(t, source{main: "0 2;new 17;dup;start;join;goto 4;map 4 0"}, 3)
	steps(t, m, 0, 4)
	wantState(t, m, 0, api.ThreadJoining)
	wantReached(t, m, 10)
	through(t, m, 2)
	wantState(t, m, 2, api.ThreadEnded)
	wantState(t, m, 0, api.ThreadJoining)
	wantReached(t, m, 10)
	steps(t, m, 0, 1)
	wantReached(t, m)
}

// TestP22_1TheFinalizer: 9 is reached always; the queue holds all that stands in it, with what that names; who is
// finalized is held as any receiver.
func TestP22_1TheFinalizer(t *testing.T) {
	m := machineOf(t, source{
		main:     "0 5;new 14;dup;new 12;dup;new 0;putfield 12 1;putfield 14 0;pop;new 15;pop;new 16;pop;return",
		finalize: "1 1;null;store 0;null;throw",
	}, 2)
	steps(t, m, 0, 7)
	wantReached(t, m, 10, 11, 12)
	through(t, m, 0)
	wantReached(t, m)
	for _, obj := range []int{10, 14, 13} {
		wantQueue(t, m, obj, api.OK)
		m.Queue(obj)
	}
	wantReached(t, m, 10, 11, 12, 13, 14)
	steps(t, m, 1, 1) // 10 is its receiver now
	wantReached(t, m, 10, 11, 12, 13, 14)
	steps(t, m, 1, 2)
	wantReached(t, m, 13, 14)
	steps(t, m, 1, 2)
	wantState(t, m, 1, api.ThreadIdle)
	wantReached(t, m, 13, 14)
	steps(t, m, 1, 3)
	wantReached(t, m, 13)
	through(t, m, 1)
	wantState(t, m, 1, api.ThreadIdle)
	wantReached(t, m)
	for _, obj := range []int{10, 13, 14} {
		wantQueue(t, m, obj, api.ErrLegalTwice)
	}
}

// TestP22_1ComesBack: a finalizer may make its object reached again; it is not to be queued again for all that.
func TestP22_1ComesBack(t *testing.T) {
	m := machineOf(t, source{
		main:     "0 1;new 14;pop;goto 2;map 2 0",
		finalize: "1 1;load 0;putstatic 11 1;return",
	}, 2)
	steps(t, m, 0, 2)
	wantQueue(t, m, 10, api.OK)
	m.Queue(10)
	wantQueue(t, m, 10, api.ErrLegalTwice)
	through(t, m, 1)
	wantReached(t, m, 10)
	wantQueue(t, m, 10, api.ErrLegalTwice)
	wantClear(t, m, 10, api.ErrLegalReached)
}
