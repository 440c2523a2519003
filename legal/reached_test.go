package legal_test

import (
	"slices"
	"testing"

	"gneiss/legal"
)

func TestP22_1ReachedAtFirst(t *testing.T) {
	m := machineOf(t, source{}, 2)
	wantReached(t, m)
	if got := legal.Reached(m); !slices.Equal(got, []int{1, 2, 3, 4, 5, 6, 7, 8, 9}) {
		t.Errorf("Reached = %v", got)
	}
	steps(t, m, 0, 1) // main has ended, so that its ClassThread is reached no more
	if got := legal.Reached(m); !slices.Equal(got, []int{1, 2, 3, 4, 5, 6, 7, 9}) {
		t.Errorf("Reached = %v", got)
	}
}

// wantRows is what is reached of the program's own objects after each step of main.
func wantRows(t *testing.T, s source, rows ...[]int) {
	t.Helper()
	m := machineOf(t, s, 2)
	for step, want := range rows {
		steps(t, m, 0, 1)
		t.Logf("behind step %d", step)
		wantReached(t, m, want...)
	}
}

func TestP22_1Locals(t *testing.T) {
	wantRows(t, source{main: "3 1;new 0;store 2;new 12;store 1;new 0;store 0;null;store 1;new 0;store 2;return"},
		[]int{10}, []int{10}, []int{10, 11}, []int{10, 11}, []int{10, 11, 12}, []int{10, 11, 12}, []int{10, 11, 12},
		[]int{10, 12}, []int{10, 12, 13}, []int{12, 13}, nil)
}

func TestP22_1Stacks(t *testing.T) {
	wantRows(t, source{main: "0 3;new 0;new 12;dup;pop;new 0;swap;pop;pop;pop;return"},
		[]int{10}, []int{10, 11}, []int{10, 11}, []int{10, 11}, []int{10, 11, 12}, []int{10, 11, 12}, []int{10, 12},
		[]int{10}, nil, nil)
}

// TestP22_1Frames: what callers hold is reached, on their stacks and in their locals, and what they hand on no more than
// the one who is called holds it.
func TestP22_1Frames(t *testing.T) {
	wantRows(t, source{
		main: "1 3;new 0;store 0;new 0;new 0;new 0;callstatic 11 1;pop;pop;goto 8;map 8 1 16",
		more: "method own 1 16 2 2 16 16;new 0;store 1;null;store 0;new 0;callstatic 11 2;load 1;giveref;" +
			"method last 1 0 1 0 16;return",
	},
		[]int{10}, []int{10}, []int{10, 11}, []int{10, 11, 12}, []int{10, 11, 12, 13}, []int{10, 11, 12, 13},
		// own has 12 and 13 as its locals.
		[]int{10, 11, 12, 13, 14}, []int{10, 11, 12, 14}, []int{10, 11, 12, 14}, []int{10, 11, 14}, []int{10, 11, 14, 15},
		// last has 15 as its local.
		[]int{10, 11, 14, 15}, []int{10, 11, 14}, []int{10, 11, 14}, []int{10, 11, 14}, []int{10, 11}, []int{10}, []int{10})
}

// TestP22_1Receivers are held by the virtual methods that are run, as long as their local does.
func TestP22_1Receivers(t *testing.T) {
	wantRows(t, source{
		main:     "0 1;new 14;callvirtual 14 0;return",
		finalize: "1 1;null;store 0;return",
	}, []int{10}, []int{10}, []int{10}, nil, nil, nil)
}

// TestP22_1Thrown: who catches has what was thrown and its locals, nothing else of its stack nor of the frames above it.
func TestP22_1Thrown(t *testing.T) {
	wantRows(t, source{
		main: "1 3;new 0;store 0;new 0;callstatic 11 1;pop;goto 7;pop;goto 7;handler 0 4 6 1;map 6 1 0 17;map 7 1 0",
		more: "method own 1 0 1 2;new 0;store 0;new 0;new 1;throw",
	},
		[]int{10}, []int{10}, []int{10, 11}, []int{10, 11}, []int{10, 11, 12}, []int{10, 11, 12}, []int{10, 11, 12, 13},
		[]int{10, 11, 12, 13, 14}, []int{10, 14}, []int{10}, []int{10})
}

func TestP22_1Statics(t *testing.T) {
	wantRows(t, source{main: "0 1;new 0;putstatic 11 1;new 17;putstatic 11 2;new 12;putstatic 13 0;int 13;putstatic 11 0;" +
		"new 0;pop;new 0;putstatic 11 1;null;putstatic 13 0;return"},
		[]int{10}, []int{10}, []int{10, 11}, []int{10, 11}, []int{10, 11, 12}, []int{10, 11, 12}, []int{10, 11, 12},
		[]int{10, 11, 12}, []int{10, 11, 12, 13}, []int{10, 11, 12}, []int{10, 11, 12, 14}, []int{11, 12, 14},
		[]int{11, 12, 14}, []int{11, 14}, []int{11, 14})
}

// TestP22_1Fields: 10 is a leaf, 11 its o, 12 its q, 13 its o's o.
func TestP22_1Fields(t *testing.T) {
	m := machineOf(t, source{main: "1 4;new 13;store 0;load 0;new 12;dup;new 0;swap;pop;pop;putfield 12 1;return"}, 2)
	steps(t, m, 0, 6)
	wantReached(t, m, 10, 11, 12)

	m = machineOf(t, source{main: "2 4;new 13;store 0;load 0;new 12;dup;store 1;putfield 12 1;load 0;new 0;putfield 13 0;" +
		"load 1;new 0;putfield 12 1;null;store 1;load 0;int 14;putfield 12 0;new 0;pop;" +
		"load 0;null;putfield 13 0;load 0;load 0;putfield 13 0;load 0;null;putfield 12 1;null;store 0;return"}, 2)
	steps(t, m, 0, 15)
	wantReached(t, m, 10, 11, 12, 13)
	steps(t, m, 0, 5) // 14 is a number in n, and an object that nothing names
	wantReached(t, m, 10, 11, 12, 13)
	steps(t, m, 0, 3)
	wantReached(t, m, 10, 11, 13)
	steps(t, m, 0, 3) // it names itself
	wantReached(t, m, 10, 11, 13)
	steps(t, m, 0, 3)
	wantReached(t, m, 10)
	steps(t, m, 0, 2)
	wantReached(t, m)
}

func TestP22_1Arrays(t *testing.T) {
	// 10 refs, 11 and 12 in it, 13 ints with 11 and 12 as numbers.
	m := machineOf(t, source{main: "2 3;int 1000;newrefs;store 0;load 0;int 0;new 0;putref;load 0;int 999;new 12;putref;" +
		"int 2;newints;store 1;load 1;int 0;int 11;putint;load 1;int 1;int 12;putint;" +
		"load 0;int 0;load 1;putref;load 0;int 999;load 0;putref;null;store 0;int 0;newrefs;store 0;return"}, 2)
	steps(t, m, 0, 11)
	wantReached(t, m, 10, 11, 12)
	steps(t, m, 0, 11)
	wantReached(t, m, 10, 11, 12, 13)
	steps(t, m, 0, 4)
	wantReached(t, m, 10, 12, 13)
	steps(t, m, 0, 4)
	wantReached(t, m, 10, 13)
	steps(t, m, 0, 2)
	wantReached(t, m, 13)
	steps(t, m, 0, 3)
	wantReached(t, m, 13, 14)
}

// TestP22_1Rings: nodes that name one another in a ring are reached as long as any of them is.
func TestP22_1Rings(t *testing.T) {
	m := machineOf(t, source{main: "2 3;new 12;store 0;new 12;store 1;load 0;load 1;putfield 12 1;load 1;new 12;putfield 12 1;" +
		"load 1;getfield 12 1;cast 12;load 0;putfield 12 1;null;store 0;load 1;getfield 12 1;store 0;null;store 1;" +
		"null;store 0;return"}, 2)
	steps(t, m, 0, 15)
	wantReached(t, m, 10, 11, 12)
	steps(t, m, 0, 2)
	wantReached(t, m, 10, 11, 12)
	steps(t, m, 0, 5)
	wantReached(t, m, 10, 11, 12)
	steps(t, m, 0, 2)
	wantReached(t, m)
}

// TestP22_1WeakReferences: 10 an object, 11 a weak reference to it, 12 one to that one, 13 one to a reached object.
func TestP22_1WeakReferences(t *testing.T) {
	m := machineOf(t, source{main: "3 2;new 0;store 0;load 0;makeweak;store 1;load 1;makeweak;store 2;load 2;makeweak;pop;" +
		"null;store 0;load 1;deref;store 0;null;store 0;null;store 1;load 2;deref;pop;" +
		"load 2;putstatic 11 1;null;store 2;getstatic 11 1;pop;null;putstatic 11 1;return"}, 2)
	for _, row := range []struct {
		count int
		want  []int
	}{{4, []int{10, 11}}, {3, []int{10, 11, 12}}, {3, []int{10, 11, 12, 13}}, {1, []int{10, 11, 12}}, {2, []int{11, 12}},
		{1, []int{11, 12}}, {1, []int{10, 11, 12}}, {1, []int{10, 11, 12}}, {2, []int{11, 12}}, {2, []int{12}}, {1, []int{12}},
		{1, []int{11, 12}}, {1, []int{12}}, {4, []int{12}}, {1, []int{12}}, {1, []int{12}}, {2, nil}} {
		steps(t, m, 0, row.count)
		wantReached(t, m, row.want...)
	}
}
