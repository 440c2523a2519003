package mark_test

import (
	"math"
	"slices"
	"testing"

	"gneiss/api"
	"gneiss/mark"
)

func newWork(t *testing.T, size int) *mark.Work {
	t.Helper()
	w, code := mark.New(size)
	if w == nil || code != api.OK {
		t.Fatalf("New(%d) = %v, %d", size, w, code)
	}
	return w
}

func wantGrey(t *testing.T, w *mark.Work, is bool, refs ...int) {
	t.Helper()
	for _, ref := range refs {
		if got, code := w.Grey(ref); got != is || code != api.OK {
			t.Fatalf("Grey(%d) = %v, %d; want %v, OK", ref, got, code, is)
		}
	}
}

func wantNext(t *testing.T, w *mark.Work, refs ...int) {
	t.Helper()
	for _, ref := range refs {
		if got, is := w.Next(); got != ref || !is {
			t.Fatalf("Next() = %d, %v; want %d, true", got, is, ref)
		}
	}
}

func wantNoNext(t *testing.T, w *mark.Work) {
	t.Helper()
	if got, is := w.Next(); got != 0 || is {
		t.Fatalf("Next() = %d, %v; want 0, false", got, is)
	}
}

func wantColour(t *testing.T, w *mark.Work, colour int, refs ...int) {
	t.Helper()
	for _, ref := range refs {
		if got, code := w.Colour(ref); got != colour || code != api.OK {
			t.Fatalf("Colour(%d) = %d, %d; want %d, OK", ref, got, code, colour)
		}
	}
}

func wantBlack(t *testing.T, w *mark.Work, refs ...int) {
	t.Helper()
	if got := w.Black(); !slices.Equal(got, refs) {
		t.Fatalf("Black() = %v; want %v", got, refs)
	}
}

func wantNoPlace(t *testing.T, w *mark.Work, ref int) {
	t.Helper()
	if is, code := w.Grey(ref); is || code != api.ErrMarkPlace {
		t.Fatalf("Grey(%d) = %v, %d; want false, ErrMarkPlace", ref, is, code)
	}
	if colour, code := w.Colour(ref); colour != 0 || code != api.ErrMarkPlace {
		t.Fatalf("Colour(%d) = %d, %d; want 0, ErrMarkPlace", ref, colour, code)
	}
}

func upTo(count int) []int {
	numbers := make([]int, count)
	for i := range numbers {
		numbers[i] = i
	}
	return numbers
}

func backwards(numbers []int) []int {
	turned := slices.Clone(numbers)
	slices.Reverse(turned)
	return turned
}

func TestP11_1NewRefuses(t *testing.T) {
	for _, size := range []int{math.MinInt, -4096, -1, 0, 4097, 8192, api.MaxWords, 1 << 32, 1<<32 + 1, math.MaxInt} {
		if w, code := mark.New(size); w != nil || code != api.ErrMarkSize {
			t.Errorf("New(%d) = %v, %d; want nil, ErrMarkSize", size, w, code)
		}
	}
}

func TestP11_1AllAreWhiteAtFirst(t *testing.T) {
	for _, size := range []int{1, 2, 3, 64, 1000, 4095, 4096} {
		w := newWork(t, size)
		wantColour(t, w, api.ColourWhite, upTo(size)...)
		wantNoNext(t, w)
		wantBlack(t, w)
		wantNoPlace(t, w, size)
		wantNoPlace(t, w, -1)
	}
}

func TestP11_1WhiteGreyBlack(t *testing.T) {
	w := newWork(t, 3)
	wantGrey(t, w, true, 1)
	wantColour(t, w, api.ColourGrey, 1)
	wantColour(t, w, api.ColourWhite, 0, 2)
	wantBlack(t, w)
	wantGrey(t, w, false, 1, 1)
	wantColour(t, w, api.ColourGrey, 1)
	wantNext(t, w, 1)
	wantColour(t, w, api.ColourBlack, 1)
	wantColour(t, w, api.ColourWhite, 0, 2)
	wantBlack(t, w, 1)
	wantGrey(t, w, false, 1, 1)
	wantColour(t, w, api.ColourBlack, 1)
	wantNoNext(t, w)
	wantBlack(t, w, 1)
}

func TestP11_1FirstGreyFirstBlack(t *testing.T) {
	rising := upTo(4096)
	for _, refs := range [][]int{{0}, {4095}, {7, 4095, 0, 9}, {0, 1, 2}, {2, 1, 0}, rising, backwards(rising)} {
		w := newWork(t, 4096)
		wantGrey(t, w, true, refs...)
		for i, ref := range refs {
			wantColour(t, w, api.ColourGrey, ref)
			wantNext(t, w, ref)
			wantColour(t, w, api.ColourBlack, ref)
			if i+1 < len(refs) {
				wantColour(t, w, api.ColourGrey, refs[i+1])
			}
		}
		wantNoNext(t, w)
		wantNoNext(t, w)
		slices.Sort(refs)
		wantBlack(t, w, refs...)
	}
}

func TestP11_1GreyAgainKeepsItsTurn(t *testing.T) {
	w := newWork(t, 8)
	wantGrey(t, w, true, 5, 3, 6)
	wantGrey(t, w, false, 5, 3, 6, 5)
	wantNext(t, w, 5)
	wantGrey(t, w, false, 5, 3)
	wantGrey(t, w, true, 0)
	wantNext(t, w, 3, 6)
	wantGrey(t, w, true, 7, 1)
	wantGrey(t, w, false, 0, 7, 6)
	wantNext(t, w, 0, 7, 1)
	wantNoNext(t, w)
	wantGrey(t, w, true, 4)
	wantNext(t, w, 4)
	wantNoNext(t, w)
	wantBlack(t, w, 0, 1, 3, 4, 5, 6, 7)
	wantColour(t, w, api.ColourWhite, 2)
}

func TestP11_1ResetMakesAllWhite(t *testing.T) {
	w := newWork(t, 6)
	w.Reset()
	wantColour(t, w, api.ColourWhite, upTo(6)...)
	for turn := range 20 {
		refs := []int{turn % 6, (turn + 5) % 6, (turn + 2) % 6, (turn + 3) % 6}
		wantGrey(t, w, true, refs...)
		wantNext(t, w, refs[:turn%5]...)
		w.Reset()
		wantColour(t, w, api.ColourWhite, upTo(6)...)
		wantNoNext(t, w)
		wantBlack(t, w)
		w.Reset()
		wantColour(t, w, api.ColourWhite, upTo(6)...)
	}
}

// TestP11_1FullAgainAndAgain: all may be grey at one time, wherever the row of them stood when they were made white.
func TestP11_1FullAgainAndAgain(t *testing.T) {
	for _, size := range []int{1, 2, 5, 4096} {
		w := newWork(t, size)
		for _, some := range []int{0, 1, size / 2, size - 1, size} {
			wantGrey(t, w, true, upTo(some)...)
			wantNext(t, w, upTo(some/2)...)
			w.Reset()
			refs := backwards(upTo(size))
			wantGrey(t, w, true, refs...)
			wantColour(t, w, api.ColourGrey, refs...)
			wantNext(t, w, refs...)
			wantNoNext(t, w)
			wantBlack(t, w, upTo(size)...)
			w.Reset()
		}
	}
}

func TestP11_1NoSuchPlace(t *testing.T) {
	for _, size := range []int{1, 2, 64, 4096} {
		w := newWork(t, size)
		none := []int{math.MinInt, -size, -2, -1, size, size + 1, 4096, 1 << 32, 1<<32 + size, math.MaxInt}
		for range 3 {
			for _, ref := range none {
				wantNoPlace(t, w, ref)
			}
			wantColour(t, w, api.ColourWhite, upTo(size)...)
			wantNoNext(t, w)
			wantGrey(t, w, true, size-1)
			for _, ref := range none {
				wantNoPlace(t, w, ref)
			}
			wantColour(t, w, api.ColourGrey, size-1)
			wantNext(t, w, size-1)
			for _, ref := range none {
				wantNoPlace(t, w, ref)
			}
			wantNoNext(t, w)
			wantBlack(t, w, size-1)
			w.Reset()
		}
	}
}

func TestR4BlackIsNewEachTime(t *testing.T) {
	w := newWork(t, 10)
	wantGrey(t, w, true, 4, 2, 8, 1)
	wantNext(t, w, 4, 2, 8)
	first, second := w.Black(), w.Black()
	for i := range first {
		first[i] = -1
	}
	if !slices.Equal(second, []int{2, 4, 8}) {
		t.Fatalf("%v shares memory with another answer", second)
	}
	_ = append(first[:0], 9, 9, 9, 9, 9, 9, 9, 9)
	wantBlack(t, w, 2, 4, 8)
	wantNext(t, w, 1)
	if !slices.Equal(second, []int{2, 4, 8}) {
		t.Fatalf("%v changed behind its back", second)
	}
	wantBlack(t, w, 1, 2, 4, 8)
}

func TestR5OneIsApartFromAnother(t *testing.T) {
	one, other := newWork(t, 4), newWork(t, 4)
	wantGrey(t, one, true, 2, 1)
	wantColour(t, other, api.ColourWhite, upTo(4)...)
	wantNoNext(t, other)
	wantGrey(t, other, true, 1, 3)
	wantNext(t, one, 2)
	other.Reset()
	wantBlack(t, other)
	wantBlack(t, one, 2)
	wantNext(t, one, 1)
}

func TestR3Nil(t *testing.T) {
	var none *mark.Work
	for _, ref := range []int{-1, 0, 1, 4096} {
		if is, code := none.Grey(ref); is || code != api.ErrNil {
			t.Errorf("Grey(%d) of nil = %v, %d", ref, is, code)
		}
		if colour, code := none.Colour(ref); colour != 0 || code != api.ErrNil {
			t.Errorf("Colour(%d) of nil = %d, %d", ref, colour, code)
		}
	}
	none.Reset()
	wantNoNext(t, none)
	wantBlack(t, none)
}

// TestR1NotMadeByNew: one that New did not make has no numbers.
func TestR1NotMadeByNew(t *testing.T) {
	w := &mark.Work{}
	for range 2 {
		wantNoPlace(t, w, 0)
		wantNoPlace(t, w, -1)
		wantNoNext(t, w)
		wantBlack(t, w)
		w.Reset()
	}
}

type row uint64

func (r *row) next(below int) int {
	*r = *r*6364136223846793005 + 1442695040888963407
	return int(uint64(*r)>>33) % below
}

// plain is the promise in plain words: grey holds the grey ones in the row in which they became so.
type plain struct {
	size        int
	grey, black []int
}

func (p *plain) colour(ref int) (int, api.Errno) {
	switch {
	case ref < 0 || ref >= p.size:
		return 0, api.ErrMarkPlace
	case slices.Contains(p.grey, ref):
		return api.ColourGrey, api.OK
	case slices.Contains(p.black, ref):
		return api.ColourBlack, api.OK
	}
	return api.ColourWhite, api.OK
}

func (p *plain) greyIt(ref int) (bool, api.Errno) {
	colour, code := p.colour(ref)
	if colour == api.ColourWhite {
		p.grey = append(p.grey, ref)
	}
	return colour == api.ColourWhite, code
}

func (p *plain) next() (int, bool) {
	if len(p.grey) == 0 {
		return 0, false
	}
	ref := p.grey[0]
	p.grey = p.grey[1:]
	p.black = append(p.black, ref)
	slices.Sort(p.black)
	return ref, true
}

func (p *plain) holds(t *testing.T, w *mark.Work) {
	t.Helper()
	for ref := -1; ref <= p.size; ref++ {
		got, code := w.Colour(ref)
		if want, wantCode := p.colour(ref); got != want || code != wantCode {
			t.Fatalf("Colour(%d) = %d, %d; want %d, %d", ref, got, code, want, wantCode)
		}
	}
	wantBlack(t, w, p.black...)
}

// stepBoth does one thing to both, by the row's next number.
func stepBoth(t *testing.T, r *row, w *mark.Work, p *plain) {
	t.Helper()
	switch what := r.next(6 * p.size); {
	case what == 0:
		w.Reset()
		p.grey, p.black = nil, nil
	case what%3 != 0:
		ref := r.next(p.size+2) - 1
		got, code := w.Grey(ref)
		if want, wantCode := p.greyIt(ref); got != want || code != wantCode {
			t.Fatalf("Grey(%d) = %v, %d; want %v, %d", ref, got, code, want, wantCode)
		}
	default:
		got, is := w.Next()
		if want, wantIs := p.next(); got != want || is != wantIs {
			t.Fatalf("Next() = %d, %v; want %d, %v", got, is, want, wantIs)
		}
	}
}

func TestP11_1LongWalk(t *testing.T) {
	r := row(5)
	for _, size := range []int{1, 2, 3, 7, 16, 33} {
		w, p := newWork(t, size), plain{size: size}
		for range 20000 {
			stepBoth(t, &r, w, &p)
			p.holds(t, w)
		}
	}
}
