package shake_test

import (
	"math"
	"testing"

	"gneiss/api"
	"gneiss/shake"
)

func newShake(t *testing.T, threads int) *shake.Shake {
	t.Helper()
	s, code := shake.New(threads)
	if s == nil || code != api.OK {
		t.Fatalf("New(%d) = %v, %d", threads, s, code)
	}
	return s
}

func mustAsk(t *testing.T, s *shake.Shake, what int) {
	t.Helper()
	if code := s.Ask(what); code != api.OK {
		t.Fatalf("Ask(%d) = %d", what, code)
	}
}

func mustAnswer(t *testing.T, s *shake.Shake, threads ...int) {
	t.Helper()
	for _, thread := range threads {
		if code := s.Answer(thread); code != api.OK {
			t.Fatalf("Answer(%d) = %d", thread, code)
		}
	}
}

func wantBusy(t *testing.T, s *shake.Shake, what int) {
	t.Helper()
	if code := s.Ask(what); code != api.ErrShakeBusy {
		t.Fatalf("Ask(%d) = %d; want ErrShakeBusy", what, code)
	}
}

func wantAsked(t *testing.T, s *shake.Shake, what int, threads ...int) {
	t.Helper()
	for _, thread := range threads {
		if got, is, code := s.See(thread); got != what || !is || code != api.OK {
			t.Fatalf("See(%d) = %d, %v, %d; want %d, true, OK", thread, got, is, code, what)
		}
	}
}

func wantLeftAlone(t *testing.T, s *shake.Shake, threads ...int) {
	t.Helper()
	for _, thread := range threads {
		if got, is, code := s.See(thread); got != 0 || is || code != api.OK {
			t.Fatalf("See(%d) = %d, %v, %d; want 0, false, OK", thread, got, is, code)
		}
	}
}

func wantRounds(t *testing.T, s *shake.Shake, rounds int, done bool) {
	t.Helper()
	if s.Rounds() != rounds || s.Done() != done {
		t.Fatalf("Rounds() = %d, Done() = %v; want %d, %v", s.Rounds(), s.Done(), rounds, done)
	}
}

func wantNoThread(t *testing.T, s *shake.Shake, thread int) {
	t.Helper()
	if got, is, code := s.See(thread); got != 0 || is || code != api.ErrShakeThread {
		t.Fatalf("See(%d) = %d, %v, %d; want 0, false, ErrShakeThread", thread, got, is, code)
	}
	if code := s.Answer(thread); code != api.ErrShakeThread {
		t.Fatalf("Answer(%d) = %d; want ErrShakeThread", thread, code)
	}
}

func upTo(count int) []int {
	numbers := make([]int, count)
	for i := range numbers {
		numbers[i] = i
	}
	return numbers
}

func TestP10_1NewRefuses(t *testing.T) {
	for _, threads := range []int{math.MinInt, -8, -1, 0, 9, 10, 12, 256, 257, 1 << 32, 1<<32 + 1, math.MaxInt} {
		if s, code := shake.New(threads); s != nil || code != api.ErrShakeThreads {
			t.Errorf("New(%d) = %v, %d; want nil, ErrShakeThreads", threads, s, code)
		}
	}
}

func TestP10_1NoRoundAtFirst(t *testing.T) {
	for threads := 1; threads <= api.MaxThreads; threads++ {
		s := newShake(t, threads)
		wantRounds(t, s, 0, true)
		wantLeftAlone(t, s, upTo(threads)...)
		wantNoThread(t, s, threads)
	}
}

func TestP10_1EachThreadIsAskedWhat(t *testing.T) {
	things := []int{0, 1, -1, 42, math.MinInt32, math.MaxInt32, math.MinInt, math.MaxInt}
	for threads := 1; threads <= api.MaxThreads; threads++ {
		s := newShake(t, threads)
		for i, what := range things {
			mustAsk(t, s, what)
			wantRounds(t, s, i+1, false)
			wantAsked(t, s, what, upTo(threads)...)
			wantAsked(t, s, what, upTo(threads)...)
			mustAnswer(t, s, upTo(threads)...)
			wantRounds(t, s, i+1, true)
			wantLeftAlone(t, s, upTo(threads)...)
		}
	}
}

func TestP10_1SeeIsNoAnswer(t *testing.T) {
	s := newShake(t, 2)
	mustAsk(t, s, 5)
	for range 4 {
		wantAsked(t, s, 5, 0, 1)
	}
	wantRounds(t, s, 1, false)
	mustAnswer(t, s, 1)
	wantAsked(t, s, 5, 0)
	wantLeftAlone(t, s, 1)
	wantRounds(t, s, 1, false)
}

// eachOrder calls use with every order of the items from at on.
func eachOrder(items []int, at int, use func(order []int)) {
	if at == len(items) {
		use(items)
		return
	}
	for i := at; i < len(items); i++ {
		items[at], items[i] = items[i], items[at]
		eachOrder(items, at+1, use)
		items[at], items[i] = items[i], items[at]
	}
}

func TestP10_1TheLastAnswerEndsTheRound(t *testing.T) {
	for threads := 1; threads <= 6; threads++ {
		s, rounds := newShake(t, threads), 0
		eachOrder(upTo(threads), 0, func(order []int) {
			rounds++
			mustAsk(t, s, -rounds)
			for i, thread := range order {
				wantLeftAlone(t, s, order[:i]...)
				wantAsked(t, s, -rounds, order[i:]...)
				wantRounds(t, s, rounds, false)
				mustAnswer(t, s, thread)
			}
			wantLeftAlone(t, s, order...)
			wantRounds(t, s, rounds, true)
		})
	}
}

func TestP10_1BusyWhileARoundIsUnderWay(t *testing.T) {
	s := newShake(t, 3)
	mustAsk(t, s, 7)
	for i, thread := range []int{1, 2, 0} {
		wantBusy(t, s, 8)
		wantBusy(t, s, 7)
		wantRounds(t, s, 1, false)
		wantAsked(t, s, 7, []int{1, 2, 0}[i:]...)
		wantLeftAlone(t, s, []int{1, 2, 0}[:i]...)
		mustAnswer(t, s, thread)
	}
	wantRounds(t, s, 1, true)
	mustAsk(t, s, 8)
	wantAsked(t, s, 8, 0, 1, 2)
	wantRounds(t, s, 2, false)
}

func TestP10_1AnswerTwiceCountsOnce(t *testing.T) {
	s := newShake(t, 3)
	mustAsk(t, s, 7)
	mustAnswer(t, s, 2, 2, 2, 2)
	wantLeftAlone(t, s, 2)
	wantAsked(t, s, 7, 0, 1)
	wantRounds(t, s, 1, false)
	mustAnswer(t, s, 0, 2, 0)
	wantAsked(t, s, 7, 1)
	wantRounds(t, s, 1, false)
	mustAnswer(t, s, 1)
	wantRounds(t, s, 1, true)
}

func TestP10_1AnswerOutsideARoundCountsForNone(t *testing.T) {
	s := newShake(t, 2)
	mustAnswer(t, s, 0, 1, 1)
	wantRounds(t, s, 0, true)
	mustAsk(t, s, 3)
	wantAsked(t, s, 3, 0, 1)
	mustAnswer(t, s, 0, 1)
	mustAnswer(t, s, 0, 1, 0)
	wantRounds(t, s, 1, true)
	wantLeftAlone(t, s, 0, 1)
	mustAsk(t, s, 4)
	wantAsked(t, s, 4, 0, 1)
	wantRounds(t, s, 2, false)
}

func TestP10_1NoSuchThread(t *testing.T) {
	for threads := 1; threads <= api.MaxThreads; threads++ {
		s := newShake(t, threads)
		none := []int{math.MinInt, -threads, -1, threads, threads + 1, 9, 256, 1 << 32, 1<<32 + 1, math.MaxInt}
		for _, thread := range none {
			wantNoThread(t, s, thread)
		}
		wantRounds(t, s, 0, true)
		mustAsk(t, s, 6)
		for _, thread := range none {
			wantNoThread(t, s, thread)
		}
		wantAsked(t, s, 6, upTo(threads)...)
		wantRounds(t, s, 1, false)
		mustAnswer(t, s, upTo(threads-1)...)
		for _, thread := range none {
			wantNoThread(t, s, thread)
		}
		wantAsked(t, s, 6, threads-1)
		wantRounds(t, s, 1, false)
		mustAnswer(t, s, threads-1)
		wantRounds(t, s, 1, true)
	}
}

func TestR5OneIsApartFromAnother(t *testing.T) {
	one, other := newShake(t, 2), newShake(t, 2)
	mustAsk(t, one, 5)
	wantRounds(t, other, 0, true)
	wantLeftAlone(t, other, 0, 1)
	mustAsk(t, other, 6)
	mustAnswer(t, other, 0, 1)
	wantAsked(t, one, 5, 0, 1)
	wantRounds(t, one, 1, false)
	wantRounds(t, other, 1, true)
}

func TestR3Nil(t *testing.T) {
	var none *shake.Shake
	for _, x := range []int{-1, 0, 1, 8} {
		if code := none.Ask(x); code != api.ErrNil {
			t.Errorf("Ask(%d) of nil = %d", x, code)
		}
		if what, is, code := none.See(x); what != 0 || is || code != api.ErrNil {
			t.Errorf("See(%d) of nil = %d, %v, %d", x, what, is, code)
		}
		if code := none.Answer(x); code != api.ErrNil {
			t.Errorf("Answer(%d) of nil = %d", x, code)
		}
	}
	wantRounds(t, none, 0, false)
}

// TestR1NotMadeByNew: one that New did not make has no thread, so nobody keeps its rounds under way.
func TestR1NotMadeByNew(t *testing.T) {
	s := &shake.Shake{}
	wantRounds(t, s, 0, true)
	wantNoThread(t, s, 0)
	mustAsk(t, s, 1)
	wantNoThread(t, s, 0)
	wantRounds(t, s, 1, true)
}

type row uint64

func (r *row) next(below int) int {
	*r = *r*6364136223846793005 + 1442695040888963407
	return int(uint64(*r)>>33) % below
}

// plain is the promise in plain words: asked holds who has not answered yet.
type plain struct {
	threads, what, rounds int
	asked                 [api.MaxThreads]bool
}

func (p *plain) ask(what int) api.Errno {
	if p.asked != [api.MaxThreads]bool{} {
		return api.ErrShakeBusy
	}
	for i := range p.threads {
		p.asked[i] = true
	}
	p.what, p.rounds = what, p.rounds+1
	return api.OK
}

func (p *plain) answer(thread int) api.Errno {
	if thread < 0 || thread >= p.threads {
		return api.ErrShakeThread
	}
	p.asked[thread] = false
	return api.OK
}

func (p *plain) holds(t *testing.T, s *shake.Shake) {
	t.Helper()
	for thread := range p.threads {
		if p.asked[thread] {
			wantAsked(t, s, p.what, thread)
		} else {
			wantLeftAlone(t, s, thread)
		}
	}
	wantRounds(t, s, p.rounds, p.asked == [api.MaxThreads]bool{})
}

func TestP10_1LongWalk(t *testing.T) {
	r := row(11)
	for threads := 1; threads <= api.MaxThreads; threads++ {
		s, p := newShake(t, threads), plain{threads: threads}
		for range 20000 {
			if r.next(4) == 0 {
				what := r.next(1000) - 500
				if got, want := s.Ask(what), p.ask(what); got != want {
					t.Fatalf("Ask(%d) = %d; want %d", what, got, want)
				}
			} else {
				thread := r.next(threads+2) - 1
				if got, want := s.Answer(thread), p.answer(thread); got != want {
					t.Fatalf("Answer(%d) = %d; want %d", thread, got, want)
				}
			}
			p.holds(t, s)
		}
		if p.rounds < 100 {
			t.Fatalf("%d threads: a walk of %d rounds tells too little", threads, p.rounds)
		}
	}
}
