package types_test

import (
	"math"
	"strconv"
	"testing"

	"gneiss/api"
	"gneiss/types"
)

func TestP17_1Text(t *testing.T) {
	for _, x := range []struct {
		t    int
		text string
	}{
		{api.TypeNone, "none"}, {api.TypeInt, "int"}, {api.TypeNull, "null"}, {api.TypeInts, "ints"}, {api.TypeRefs, "refs"},
		{api.TypeClass, "class 0"}, {api.TypeClass + 1, "class 1"}, {typeOf(api.ClassWeak), "class 10"},
		{typeOf(api.FirstClass), "class 11"}, {typeOf(50), "class 50"}, {typeOf(51), "class 51"}, {typeOf(1000), "class 1000"},
		{math.MaxInt32, "class 2147483631"}, {math.MaxInt32 + 1, "class 2147483632"},
		{math.MaxInt - 1, "class 9223372036854775790"}, {math.MaxInt, "class 9223372036854775791"},
	} {
		if text := types.Text(x.t); text != x.text {
			t.Errorf("Text(%d) = %q; want %q", x.t, text, x.text)
		}
	}
	for c := range 200 {
		if text := types.Text(typeOf(c)); text != "class "+strconv.Itoa(c) {
			t.Errorf("Text(TypeClass + %d) = %q", c, text)
		}
	}
}

func TestP17_1TextOfNoType(t *testing.T) {
	for _, x := range extremes {
		isType := x >= 0 && x <= 4 || x >= 16
		if text := types.Text(x); (text == "?") == isType {
			t.Errorf("Text(%d) = %q", x, text)
		}
	}
	for x := -1000; x < 16; x++ {
		if text := types.Text(x); (x < 0 || x > 4) && text != "?" {
			t.Errorf("Text(%d) = %q; want ?", x, text)
		}
	}
}

func TestP17_1Ref(t *testing.T) {
	for _, x := range append([]int{7, 8, 9, 10, 11, 12, 13, -2, -3, -4, 18, 66, 67, 1000}, extremes...) {
		want := x == 2 || x == 3 || x == 4 || x >= 16
		if types.Ref(x) != want {
			t.Errorf("Ref(%d) = %v", x, !want)
		}
	}
}
