package load_test

import (
	"math"
	"slices"
	"testing"

	"gneiss/api"
	"gneiss/load"
)

func wantFound(t *testing.T, ls []api.Layout, class int, m api.Method, wantClass, wantMethod int) {
	t.Helper()
	c, number, is := load.Find(ls, class, m.Name, m.Args, m.Ret)
	if c != wantClass || number != wantMethod || !is {
		t.Errorf("Find(%d, %s, %v, %d) = %d, %d, %v; want %d, %d, true", class, m.Name, m.Args, m.Ret, c, number, is,
			wantClass, wantMethod)
	}
}

func wantNotFound(t *testing.T, ls []api.Layout, class int, m api.Method) {
	t.Helper()
	if c, number, is := load.Find(ls, class, m.Name, m.Args, m.Ret); c != -1 || number != -1 || is {
		t.Errorf("Find(%d, %s, %v, %d) = %d, %d, %v; want -1, -1, false", class, m.Name, m.Args, m.Ret, c, number, is)
	}
}

func TestP15_2Find(t *testing.T) {
	ls := wantTaken(t, with(
		face(nil, method("f", 0), method("g", 1, 3, typeOf(12))),
		api.Class{Super: 9, Faces: []int{12}, Methods: []api.Method{
			static("s", 0), method("g", 1, 3, typeOf(12)), method("f", 0), method("f", 1), method("f", 0, 1),
		}},
		api.Class{Super: 13, Methods: []api.Method{method("run", 0), static("s", 1), static("f", 1), method("f", 0, 1)}},
		face([]int{12}, method("h", 0)),
	))
	g := method("g", 1, 3, typeOf(12))
	wantFound(t, ls, 9, method("run", 0), 9, 0)
	wantFound(t, ls, 12, method("f", 0), 12, 0)
	wantFound(t, ls, 12, g, 12, 1)
	wantFound(t, ls, 13, method("run", 0), 9, 0)
	wantFound(t, ls, 13, g, 13, 1)
	wantFound(t, ls, 13, method("f", 0), 13, 2)
	wantFound(t, ls, 13, method("f", 1), 13, 3)
	wantFound(t, ls, 13, method("f", 0, 1), 13, 4)
	wantFound(t, ls, 14, method("run", 0), 14, 0)
	wantFound(t, ls, 14, g, 13, 1)
	wantFound(t, ls, 14, method("f", 0), 13, 2)
	wantFound(t, ls, 14, method("f", 1), 13, 3)
	wantFound(t, ls, 14, method("f", 0, 1), 14, 3)
	wantFound(t, ls, 15, method("h", 0), 15, 0)
	if c, m, is := load.Find(ls, 9, "run", []int{}, 0); c != 9 || m != 0 || !is {
		t.Errorf("no Args and none are two: %d, %d, %v", c, m, is)
	}
	for _, class := range []int{13, 14} {
		for _, none := range []api.Method{
			method("s", 0), method("s", 1), method("F", 0), method("", 0), method("f", 3), method("f", 0, 3), method("f", 0, 1, 1),
			method("g", 1), method("g", 1, 3), method("g", 1, typeOf(12), 3), method("g", 0, 3, typeOf(12)), method("g", -1),
			method("g", 1, 3, typeOf(12), 1), method("g", 1, 3, math.MaxInt), method("h", 0), method("finalize", 0),
		} {
			wantNotFound(t, ls, class, none)
		}
	}
	for _, class := range []int{0, 1, 2, 8, 10, 11, 12, 15} {
		wantNotFound(t, ls, class, method("run", 0))
	}
	wantNotFound(t, ls, 11, static("main", 0))
	wantNotFound(t, ls, 15, method("f", 0))
	wantNotFound(t, ls, 12, method("h", 0))
	for _, class := range []int{math.MinInt, -1, 16, 17, math.MaxInt} {
		wantNotFound(t, ls, class, method("f", 0))
		wantNotFound(t, nil, class, method("f", 0))
	}
	wantNotFound(t, nil, 0, method("", 0))
	wantNotFound(t, make([]api.Layout, 1), 0, method("", 0))
}

func TestP15_2Is(t *testing.T) {
	p := with(
		face(nil), face([]int{12}), api.Class{Super: 16, Faces: []int{13}}, api.Class{Super: 14}, api.Class{Super: 9},
		api.Class{Super: 5}, face([]int{18}),
	)
	ls := wantTaken(t, p)
	for sub := -2; sub < len(ls)+3; sub++ {
		for super := -2; super < len(ls)+3; super++ {
			want := sub >= 0 && sub < len(ls) && slices.Contains((plain{p}).above(sub), super)
			if got := load.Is(ls, sub, super); got != want {
				t.Errorf("Is(%d, %d) = %v", sub, super, got)
			}
		}
	}
	for _, x := range []int{math.MinInt, math.MinInt32, math.MaxInt32, math.MaxInt} {
		if load.Is(ls, x, 0) || load.Is(ls, 11, x) || load.Is(ls, x, x) {
			t.Errorf("%d is a class", x)
		}
	}
	if load.Is(nil, 0, 0) || load.Is([]api.Layout{}, 0, 0) || load.Is(make([]api.Layout, 1), 0, 0) {
		t.Error("Is of no layouts")
	}
}

func TestP15_2LayoutsOfOnesOwn(t *testing.T) {
	ls := []api.Layout{
		{Above: []int{1, 0, 7, -1}},
		{Virtual: []api.Entry{{Name: "a", Args: []int{5}, Ret: 9, Class: 70, Method: 80}, {Name: "a", Class: -3, Method: -4}}},
	}
	if !load.Is(ls, 0, 0) || !load.Is(ls, 0, 1) || load.Is(ls, 1, 0) || load.Is(ls, 1, 1) {
		t.Error("Is is not by Above")
	}
	if load.Is(ls, 0, 7) || load.Is(ls, 0, -1) {
		t.Error("a number that is no class's is one")
	}
	wantFound(t, ls, 1, method("a", 9, 5), 70, 80)
	wantFound(t, ls, 1, method("a", 0), -3, -4)
	wantNotFound(t, ls, 0, method("a", 0))
}

func TestP15_2NothingIsChanged(t *testing.T) {
	ls := wantTaken(t, crowded())
	was := wantTaken(t, crowded())
	args := append(make([]int, 0, 9), 1, 3)
	for class := -1; class <= len(ls); class++ {
		load.Find(ls, class, "f", args, 0)
		load.Find(ls, class, "x", args[:1], 0)
		load.Is(ls, class, 0)
	}
	if !same(ls, was) || !slices.Equal(args[:9], []int{1, 3, 0, 0, 0, 0, 0, 0, 0}) {
		t.Errorf("%v, %v", ls, args[:9])
	}
}
