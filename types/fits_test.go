package types_test

import (
	"math"
	"reflect"
	"slices"
	"strings"
	"testing"

	"gneiss/api"
	"gneiss/load"
	"gneiss/types"
)

// columns is the types of fitting, in its row; 9 is no type, and there is no class behindAll.
var columns = []int{api.TypeNone, api.TypeInt, 9, api.TypeNull, api.TypeInts, api.TypeRefs, typeOf(api.ClassObject),
	typeOf(api.ClassThrowable), typeOf(api.ClassArithFault), typeOf(trouble), typeOf(api.ClassThread), typeOf(worker),
	typeOf(api.ClassWeak), typeOf(shape), typeOf(square), typeOf(drawn), typeOf(painted), typeOf(behindAll)}

// fitting has a line for each of columns as what there is, and in it an x for each of them that it fits.
const fitting = `
x . . . . . . . . . . . . . . . . .
x x . . . . . . . . . . . . . . . .
x . x . . . . . . . . . . . . . . .
x . . x x x x x x x x x x x x x x x
x . . . x . x . . . . . . . . x x .
x . . . . x x . . . . . . . . x x .
x . . . . . x . . . . . . . . x x .
x . . . . . x x . . . . . . . x x .
x . . . . . x x x . . . . . . x x .
x . . . . . x x x x . . . . . x x .
x . . . . . x . . . x . . . . x x .
x . . . . . x . . . x x . . . x x .
x . . . . . x . . . . . x . . x x .
x . . . . . x . . . . . . x . x x .
x . . . . . x . . . . . . x x x x .
x . . . . . x . . . . . . . . x x .
x . . . . . x . . . . . . . . x x .
x . . . . . x . . . . . . . . x x x
`

func TestP17_2Fits(t *testing.T) {
	ls := layouts(t)
	lines := strings.Split(strings.Trim(fitting, "\n"), "\n")
	if len(lines) != len(columns) {
		t.Fatalf("%d lines", len(lines))
	}
	for i, have := range columns {
		marks := strings.Fields(lines[i])
		for k, want := range columns {
			if types.Fits(ls, have, want) != (marks[k] == "x") {
				t.Errorf("Fits(%s, %s) = %v", types.Text(have), types.Text(want), marks[k] != "x")
			}
		}
	}
}

func TestP17_2FitsOfNoLayouts(t *testing.T) {
	for _, ls := range [][]api.Layout{nil, {}} {
		for _, have := range extremes {
			for _, want := range extremes {
				fits := want == 0 || have == want || have == 2 && (want == 3 || want == 4 || want >= 16)
				if types.Fits(ls, have, want) != fits {
					t.Errorf("Fits(%d, %d) = %v", have, want, !fits)
				}
			}
		}
	}
}

// A layout is gone by as it is, wherever it is from.
func TestP17_2LayoutsOfOnesOwn(t *testing.T) {
	ls := []api.Layout{{}, {Offset: -1}, {Offset: -2}, {Above: []int{2, 7, -13, -1}}, {Offset: 1, Above: []int{4}}, {Above: []int{3}}}
	for _, x := range []struct {
		have, want int
		fits       bool
	}{
		{api.TypeInts, typeOf(0), true}, {typeOf(0), typeOf(1), true}, {api.TypeRefs, typeOf(1), true}, {typeOf(99), typeOf(0), true},
		{typeOf(99), typeOf(1), true}, {math.MaxInt, typeOf(1), true}, {typeOf(1), typeOf(2), false}, {typeOf(3), typeOf(2), true},
		{api.TypeInts, typeOf(2), false}, {typeOf(3), typeOf(7), false}, {typeOf(3), api.TypeInts, false}, {typeOf(3), 15, false},
		{typeOf(3), typeOf(3), true}, {typeOf(2), typeOf(3), false}, {typeOf(3), typeOf(4), false}, {typeOf(5), typeOf(3), true},
		{typeOf(5), typeOf(2), false}, {15, typeOf(0), false}, {15, typeOf(1), false}, {api.TypeInt, typeOf(1), false},
		{typeOf(5), typeOf(6), false}, {typeOf(6), typeOf(6), true}, {api.TypeNull, typeOf(6), true}, {api.TypeNull, typeOf(2), true},
	} {
		if types.Fits(ls, x.have, x.want) != x.fits {
			t.Errorf("Fits(%d, %d) = %v", x.have, x.want, !x.fits)
		}
	}
	if !types.Fits([]api.Layout{{Offset: -1}}, api.TypeInts, typeOf(0)) || types.Fits([]api.Layout{{Offset: -1}}, api.TypeInts, typeOf(1)) {
		t.Error("of one layout")
	}
}

// plainFits does the chapter's words of P17.2 one by one.
func plainFits(ls []api.Layout, have, want int) bool {
	if want == api.TypeNone {
		return true
	}
	if have == want {
		return true
	}
	if !types.Ref(have) || !types.Ref(want) {
		return false
	}
	if have == api.TypeNull {
		return true
	}
	for c := range ls {
		if want != api.TypeClass+c {
			continue
		}
		if c == api.ClassObject || ls[c].Offset == -1 {
			return true
		}
		for d := range ls {
			if have == api.TypeClass+d && load.Is(ls, d, c) {
				return true
			}
		}
	}
	return false
}

func (r *random) layouts() []api.Layout {
	ls := make([]api.Layout, r.next(8))
	for c := range ls {
		ls[c].Offset = r.next(6) - 2
		for range r.next(4) {
			ls[c].Above = append(ls[c].Above, r.next(10)-1)
		}
	}
	return ls
}

func TestP17_2AsTheChapterDonePlainly(t *testing.T) {
	r := random(17)
	seen := map[bool]int{}
	for range 2000 {
		ls := r.layouts()
		for have := -2; have < 26; have++ {
			for want := -2; want < 26; want++ {
				fits := types.Fits(ls, have, want)
				if fits != plainFits(ls, have, want) {
					t.Fatalf("Fits(%v, %d, %d) = %v", ls, have, want, fits)
				}
				seen[fits]++
			}
		}
	}
	if seen[true] < 100000 || seen[false] < 100000 {
		t.Errorf("%v", seen)
	}
	ls := layouts(t)
	for _, have := range append(slices.Clone(columns), extremes...) {
		for _, want := range append(slices.Clone(columns), extremes...) {
			if fits := types.Fits(ls, have, want); fits != plainFits(ls, have, want) {
				t.Errorf("Fits(%d, %d) = %v", have, want, fits)
			}
		}
	}
}

func TestP17_2All(t *testing.T) {
	ls := layouts(t)
	sub, super := typeOf(square), typeOf(shape)
	for _, x := range []struct {
		have, want []int
		fit        bool
	}{
		{nil, nil, true}, {nil, []int{}, true}, {[]int{}, nil, true}, {[]int{0}, nil, false}, {nil, []int{0}, false},
		{[]int{sub}, []int{super}, true}, {[]int{super}, []int{sub}, false}, {[]int{1, sub}, []int{0, super}, true},
		{[]int{0, sub}, []int{1, super}, false}, {[]int{sub, 0}, []int{super, 1}, false}, {[]int{sub, super}, []int{super, sub}, false},
		{[]int{super, sub}, []int{sub, super}, false}, {[]int{1, 1}, []int{1}, false}, {[]int{1}, []int{1, 1}, false},
		{[]int{1}, []int{1, 0}, false}, {[]int{1, 0}, []int{1}, false}, {[]int{2, 2, 2, 2}, []int{3, 4, super, 0}, true},
		{[]int{5, -1, math.MaxInt}, []int{5, -1, math.MaxInt}, true}, {[]int{5, -1, math.MinInt}, []int{5, -1, math.MaxInt}, false},
	} {
		if types.All(ls, x.have, x.want) != x.fit {
			t.Errorf("All(%v, %v) = %v", x.have, x.want, !x.fit)
		}
	}
	if !types.All(nil, nil, nil) || !types.All(nil, []int{1, 2}, []int{0, 16}) || types.All(nil, []int{sub}, []int{super}) {
		t.Error("All of no layouts")
	}
}

func TestP17_2AllAsksEachPlace(t *testing.T) {
	ls := layouts(t)
	for _, length := range []int{1, 2, 24, 1000} {
		have, want := slices.Repeat([]int{typeOf(square)}, length), slices.Repeat([]int{typeOf(drawn)}, length)
		if !types.All(ls, have, want) || types.All(ls, have[1:], want) || types.All(ls, have, want[1:]) {
			t.Errorf("of %d", length)
		}
		for place := range have {
			have[place] = api.TypeInt
			if types.All(ls, have, want) {
				t.Errorf("of %d: %d fits", length, place)
			}
			want[place] = api.TypeNone
			if !types.All(ls, have, want) {
				t.Errorf("of %d: %d does not fit", length, place)
			}
		}
	}
}

func TestP17_2AllAsFitsOfEach(t *testing.T) {
	r := random(71)
	ls := layouts(t)
	seen := map[bool]int{}
	for range 20000 {
		var have, want []int
		fit := true
		for range r.next(4) {
			h, w := columns[r.next(len(columns))], columns[r.next(7)]
			have, want = append(have, h), append(want, w)
			fit = fit && plainFits(ls, h, w)
		}
		if types.All(ls, have, want) != fit {
			t.Fatalf("All(%v, %v) = %v", have, want, !fit)
		}
		seen[fit]++
	}
	if seen[true] < 3000 || seen[false] < 3000 {
		t.Errorf("%v", seen)
	}
}

func TestP17_2NothingIsChanged(t *testing.T) {
	ls, was := layouts(t), layouts(t)
	have := append(make([]int, 0, 4), typeOf(square), 1)
	want := append(make([]int, 0, 4), typeOf(shape), 0)
	types.All(ls, have, want)
	types.All(ls, have[:1], want[:1])
	for _, x := range columns {
		for _, y := range columns {
			types.Fits(ls, x, y)
		}
	}
	isKept := slices.Equal(have[:4], []int{typeOf(square), 1, 0, 0}) && slices.Equal(want[:4], []int{typeOf(shape), 0, 0, 0})
	if !isKept || !reflect.DeepEqual(ls, was) {
		t.Errorf("%v, %v, %v", have[:4], want[:4], ls)
	}
}

func TestP17_2ManyAtOnce(t *testing.T) {
	ls := layouts(t)
	answers := make(chan bool)
	for range 8 {
		go func() {
			isRight := true
			for range 200 {
				isRight = isRight && types.All(ls, []int{typeOf(square), 1}, []int{typeOf(shape), 0}) &&
					!types.Fits(ls, typeOf(shape), typeOf(square)) && types.Text(typeOf(11)) == "class 11"
			}
			answers <- isRight
		}()
	}
	for range 8 {
		if !<-answers {
			t.Error("another answer beside others")
		}
	}
}
