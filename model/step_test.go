package model_test

import (
	"strconv"
	"strings"
	"testing"

	"gneiss/api"
)

// A shown is main's lines, and what comes of them: what is printed, 1000 + c where c's fault is thrown.
type shown struct {
	locals int
	stack  int
	lines  string
	maps   string
	inputs []int
	out    []int
}

func wantShown(t *testing.T, all []shown) {
	t.Helper()
	for i, x := range all {
		var maps []string
		if x.maps != "" {
			maps = strings.Split(x.maps, ";")
		}
		m := machineOf(t, source{main: caught(x.locals, x.stack, x.lines, maps...)}, 4, x.inputs...)
		play(m, 20000)
		if m.Threads()[0].State != api.ThreadEnded {
			t.Errorf("row %d: %+v", i, m.Threads())
		}
		t.Run(x.lines, func(t *testing.T) { wantOut(t, m, x.out...) })
	}
}

func out(all ...int) []int {
	return all
}

func TestP21_2NumbersAndTheStack(t *testing.T) {
	wantShown(t, []shown{
		{0, 1, "nop;collect;int -2147483648;print;int 2147483647;print;int 0;print;" +
			"return", "", nil, out(-2147483648, 2147483647, 0)},
		{0, 3, "int 1;int 2;int 3;pop;print;print;return", "", nil, out(2, 1)},
		{0, 3, "int 1;int 2;dup;print;print;print;return", "", nil, out(2, 2, 1)},
		{0, 3, "int 1;int 2;int 3;swap;print;print;print;return", "", nil, out(2, 3, 1)},
		{3, 2, "int 1;store 0;int 2;store 2;int 3;store 1;load 2;print;load 1;print;load 0;print;load 2;print;" +
			"return", "", nil, out(2, 3, 1, 2)},
		{1, 1, "int 5;store 0;load 0;print;int 6;store 0;load 0;print;return", "", nil, out(5, 6)},
		{1, 1, "null;store 0;load 0;ifnull 5;return;int 1;print;return", "map 5 1 0", nil, out(1)},
	})
}

func TestP21_2Arith(t *testing.T) {
	wantShown(t, []shown{
		{0, 2, "int 7;int 5;arith add;print;int 7;int 5;arith sub;print;int 7;int 5;arith mul;print;" +
			"return", "", nil, out(12, 2, 35)},
		{0, 2, "int -7;int 2;arith div;print;int -7;int 2;arith rem;print;int -7;arith neg;print;" +
			"return", "", nil, out(-3, -1, 7)},
		{0, 2, "int 12;int 10;arith and;print;int 12;int 10;arith or;print;int 12;int 10;arith xor;print;" +
			"return", "", nil, out(8, 14, 6)},
		{0, 2, "int -16;int 33;arith shl;print;int -16;int 2;arith shr;print;int -16;int 28;arith ushr;print;" +
			"return", "", nil, out(-32, -4, 15)},
		{0, 2, "int 2147483647;int 1;arith add;print;int -2147483648;int -1;arith div;print;int -2147483648;arith neg;" +
			"print;return", "", nil,
			out(-2147483648, -2147483648, -2147483648)},
		{0, 3, "int 9;int 1;int 0;arith div;print;return", "", nil, out(1005)},
		{0, 3, "int 9;int 1;int 0;arith rem;print;return", "", nil, out(1005)},
		{0, 2, "int 0;int 1;arith div;print;int 9;int 0;arith neg;print;print;return", "", nil, out(0, 0, 9)},
	})
}

// jump is main's lines with an instruction that jumps behind what is pushed; it prints 1 if it goes on at its A, else 2.
func jump(push, ins string, isTaken bool) shown {
	at := strconv.Itoa(strings.Count(push, ";") + 5)
	x := shown{0, 2, push + ";" + ins + " " + at + ";int 2;print;return;int 1;print;return", "map " + at + " 0", nil, out(2)}
	if isTaken {
		x.out = out(1)
	}
	return x
}

func TestP21_2Jumps(t *testing.T) {
	wantShown(t, []shown{
		jump("int 0", "ifzero", true), jump("int 1", "ifzero", false), jump("int -2147483648", "ifzero", false),
		jump("int 1;int 2", "ifless", true), jump("int 2;int 1", "ifless", false), jump("int 2;int 2", "ifless", false),
		jump("int -2147483648;int 2147483647", "ifless", true), jump("int 2147483647;int -2147483648", "ifless", false),
		jump("new 0;dup", "ifsame", true), jump("new 0;new 0", "ifsame", false), jump("null;null", "ifsame", true),
		jump("null;new 0", "ifsame", false), jump("new 0;null", "ifsame", false),
		jump("int 0;newints;int 0;newints", "ifsame", false),
		jump("null", "ifnull", true), jump("new 0", "ifnull", false), jump("int 0;newrefs", "ifnull", false),
		{0, 1, "goto 4;int 2;print;return;int 1;print;goto 1", "map 1 0;map 4 0", nil, out(1, 2)},
	})
	// Back: it counts from 3 down.
	wantShown(t, []shown{{1, 2, "int 3;store 0;load 0;ifzero 11;load 0;print;load 0;int 1;arith sub;store 0;goto 2;return",
		"map 2 1 1;map 11 1 1", nil, out(3, 2, 1)}})
}

func TestP21_2Read(t *testing.T) {
	wantShown(t, []shown{
		{0, 1, "read;print;read;print;return", "", nil, out(0, 0)},
		{0, 1, "read;print;read;print;return", "", []int{7}, out(7, 0)},
		{0, 1, "read;print;read;print;read;print;return", "", []int{1, 2, 3, 4}, out(1, 2, 3)},
		{0, 1, strings.Repeat("read;print;", 8) + "return", "",
			[]int{1 << 31, 1<<31 - 1, -1 << 31, -1<<31 - 1, 1 << 32, 1<<32 + 5, -1 << 63, 1<<63 - 1},
			out(-1<<31, 1<<31-1, -1<<31, 1<<31-1, 0, 5, 0, -1)},
	})
}

func TestP21_2FieldsAndStatics(t *testing.T) {
	wantShown(t, []shown{
		{0, 2, "new 13;getfield 13 0;print;new 13;getfield 13 1;ifnull 7;return;int 1;print;return", "map 7 0", nil, out(0, 1)},
		{1, 2, "new 14;store 0;load 0;int 5;putfield 13 0;load 0;int 6;putfield 14 0;load 0;getfield 13 0;print;load 0;" +
			"getfield 14 0;print;return",
			"", nil, out(5, 6)},
		{2, 2, "new 13;store 0;new 13;store 1;load 0;int 5;putfield 13 0;load 1;getfield 13 0;print;load 0;getfield 13 0;" +
			"print;return",
			"", nil, out(0, 5)},
		{1, 2, "new 13;store 0;load 0;load 0;putfield 13 1;load 0;getfield 13 1;load 0;ifsame 10;return;load 0;null;" +
			"putfield 13 1;load 0;getfield 13 1;ifnull 17;return;int 1;print;return",
			"map 10 1 29;map 17 1 29", nil, out(1)},
		{0, 2, "null;getfield 13 0;print;return", "", nil, out(1002)},
		{0, 3, "int 9;null;int 1;putfield 13 0;return", "", nil, out(1002)},
		{0, 2, "null;null;putfield 13 1;return", "", nil, out(1002)},
		{0, 2, "getstatic 11 0;print;int 8;putstatic 11 0;getstatic 11 0;print;getstatic 11 1;ifnull 9;return;int 1;print;" +
			"return", "map 9 0", nil, out(0, 8, 1)},
		{0, 2, "new 13;putstatic 11 1;getstatic 11 1;is 13;print;getstatic 11 2;is 0;print;null;putstatic 11 1;" +
			"getstatic 11 1;is 0;print;return",
			"", nil, out(1, 0, 0)},
	})
}

func TestP21_2Arrays(t *testing.T) {
	wantShown(t, []shown{
		{0, 1, "int 0;newints;length;print;int 1000;newints;length;print;int 0;newrefs;length;print;int 1000;newrefs;" +
			"length;print;return",
			"", nil, out(0, 1000, 0, 1000)},
		{0, 2, "int 9;int 1001;newints;return", "", nil, out(1004)},
		{0, 2, "int 9;int -1;newints;return", "", nil, out(1004)},
		{0, 2, "int 9;int 1001;newrefs;return", "", nil, out(1004)},
		{0, 2, "int 9;int -1;newrefs;return", "", nil, out(1004)},
		{0, 1, "int -2147483648;newints;return", "", nil, out(1004)},
		{0, 1, "int 2147483647;newrefs;return", "", nil, out(1004)},
		{0, 1, "null;length;return", "", nil, out(1002)},
		{1, 3, "int 2;newints;store 0;load 0;int 1;int 7;putint;load 0;int 0;getint;print;load 0;int 1;getint;print;" +
			"return", "", nil, out(0, 7)},
		{1, 3, "int 2;newrefs;store 0;load 0;int 0;load 0;putref;load 0;int 1;getref;is 0;print;load 0;int 0;getref;" +
			"load 0;ifsame 18;return;int 1;print;return",
			"map 18 1 4", nil, out(0, 1)},
		{1, 3, "int 1;newrefs;store 0;load 0;int 0;load 0;putref;load 0;int 0;null;putref;load 0;int 0;getref;is 0;print;" +
			"return", "", nil, out(0)},
		{0, 2, "int 2;newints;int 2;getint;return", "", nil, out(1003)},
		{0, 2, "int 2;newints;int -1;getint;return", "", nil, out(1003)},
		{0, 2, "int 0;newrefs;int 0;getref;return", "", nil, out(1003)},
		{0, 2, "int 1000;newrefs;int 1000;getref;return", "", nil, out(1003)},
		{0, 2, "int 1000;newrefs;int 999;getref;is 0;print;return", "", nil, out(0)},
		{0, 3, "int 2;newints;int 2;int 0;putint;return", "", nil, out(1003)},
		{0, 3, "int 2;newints;int -2147483648;int 0;putint;return", "", nil, out(1003)},
		{0, 3, "int 2;newrefs;int 2147483647;null;putref;return", "", nil, out(1003)},
		{0, 3, "int 2;newrefs;int -1;null;putref;return", "", nil, out(1003)},
		{0, 2, "null;int -1;getint;return", "", nil, out(1002)},
		{0, 2, "null;int 0;getref;return", "", nil, out(1002)},
		{0, 3, "null;int 5;int 5;putint;return", "", nil, out(1002)},
		{0, 3, "null;int 5;new 0;putref;return", "", nil, out(1002)},
	})
}

func TestP21_2IsAndCast(t *testing.T) {
	// Each row of what is pushed, and the classes of 0 to 21 that it is.
	for _, x := range []struct {
		push string
		is   []int
	}{
		{"null", nil}, {"new 0", out(0)}, {"new 13", out(0, 12, 13)}, {"new 14", out(0, 12, 13, 14)},
		{"new 5", out(0, 1, 5)}, {"new 1", out(0, 1)},
		{"new 15", out(0, 1, 15)}, {"new 16", out(0, 1, 15, 16)}, {"new 9", out(0, 9)}, {"new 17", out(0, 9, 17)},
		{"new 18", out(0, 18)}, {"new 19", out(0, 18, 19)},
		{"int 3;newints", out(0)}, {"int 3;newrefs", out(0)}, {"new 14;makeweak", out(0, 10)}, {"new 11", out(0, 11)},
		{"new 21", out(0, 9, 21)},
	} {
		var rows []shown
		for class := range 22 {
			is, cast := out(0), out(1006)
			for _, c := range x.is {
				if c == class {
					is, cast = out(1), out(7)
				}
			}
			if x.push == "null" {
				cast = out(7)
			}
			number := strconv.Itoa(class)
			rows = append(rows, shown{0, 2, x.push + ";is " + number + ";print;return", "", nil, is})
			rows = append(rows, shown{0, 2, x.push + ";cast " + number + ";pop;int 7;print;return", "", nil, cast})
		}
		wantShown(t, rows)
	}
	wantShown(t, []shown{{1, 2, "new 14;store 0;load 0;cast 12;load 0;ifsame 7;return;int 1;print;" +
		"return", "map 7 1 30", nil, out(1)},
		{0, 2, "null;cast 13;ifnull 4;return;int 1;print;return", "map 4 0", nil, out(1)}})
}

func TestP21_2Calls(t *testing.T) {
	more := "method sum 1 1 3 2 1 1;load 0;load 1;arith sub;giveint;" +
		"method keep 1 25 1 1 25;load 0;giveref;" +
		"method nothing 1 0 0 0;return;" +
		"method own 0 1 3 2 1 1;load 1;load 2;arith mul;giveint"
	for i, x := range []struct {
		lines string
		out   []int
	}{
		{"int 9;int 7;int 3;callstatic 11 1;print;print;return", out(4, 9)},
		{"new 17;callstatic 11 2;is 17;print;null;callstatic 11 2;is 0;print;return", out(1, 0)},
		{"int 9;callstatic 11 3;print;return", out(9)},
		{"new 11;int 7;int 3;callvirtual 11 4;print;return", out(21)},
		{"null;int 7;int 3;callvirtual 11 4;print;return", out(1002)},
		{"new 13;callvirtual 13 0;print;new 14;callvirtual 13 0;print;new 14;callvirtual 14 0;print;return", out(0, 4, 4)},
		{"new 13;dup;int 6;putfield 13 0;callvirtual 13 0;print;return", out(6)},
		{"new 13;callface 12 0;print;new 14;callface 12 0;print;return", out(0, 4)},
		{"new 14;int 8;new 17;callvirtual 13 1;is 17;print;return", out(8, 1)},
		{"new 13;int 8;null;callface 12 1;is 0;print;return", out(8, 0)},
		{"null;callvirtual 13 0;print;return", out(1002)},
		{"null;callface 12 0;print;return", out(1002)},
		{"new 0;callface 12 0;print;return", out(1006)},
		{"int 1;newints;int 8;null;callface 12 1;pop;return", out(1006)},
		{"new 18;cast 0;callface 12 0;print;return", out(1006)},
		{"int 3;new 9;callvirtual 9 0;print;return", out(3)},
		{"int 3;new 21;callvirtual 9 0;print;return", out(3)},
		{"null;callvirtual 9 0;return", out(1002)},
		{"new 17;callvirtual 9 0;int 1;print;return", out(71, 1)},
		{"new 17;callvirtual 17 0;int 1;print;return", out(71, 1)},
	} {
		m := machineOf(t, source{main: caught(0, 4, x.lines), more: more, run: "1 1;int 71;print;return"}, 2)
		play(m, 1000)
		t.Run(x.lines, func(t *testing.T) { wantOut(t, m, x.out...) })
		if m.Threads()[0] != (api.Thread{State: api.ThreadEnded}) {
			t.Errorf("row %d: %+v", i, m.Threads())
		}
	}
}

func TestP21_2Frames(t *testing.T) {
	// It prints how deep it is ahead of each call.
	more := "method deep 1 0 1 2 1;load 0;print;load 0;int 1;arith add;callstatic 11 1;return"
	m := machineOf(t, source{main: caught(0, 1, "int 2;callstatic 11 1;return"), more: more}, 2)
	for frames := 2; frames <= 24; frames++ {
		for m.Threads()[0].Frames != frames {
			steps(t, m, 0, 1)
		}
		wantThreads(t, m, api.Thread{Frames: frames, Class: 11, Method: 1}, api.Thread{State: api.ThreadIdle})
	}
	steps(t, m, 0, 5)
	wantThreads(t, m, api.Thread{Frames: 24, Class: 11, Method: 1, At: 5}, api.Thread{State: api.ThreadIdle})
	steps(t, m, 0, 1)
	play(m, 100)
	wantOut(t, m, 2, 3, 4, 5, 6, 7, 8, 9, 10, 11, 12, 13, 14, 15, 16, 17, 18, 19, 20, 21, 22, 23, 24, 1008)
	// In the frame that would be one too many the fault comes behind those of the receiver; ClassThread's run needs no frame.
	for _, x := range []struct {
		lines string
		fault int
	}{
		{"new 13;callvirtual 13 0;print", 1008}, {"null;callvirtual 13 0;print", 1002}, {"new 0;callface 12 0;print", 1006},
		{"new 13;callface 12 0;print", 1008}, {"null;callface 12 0;print", 1002},
		{"new 9;callvirtual 9 0", 77}, {"new 17;callvirtual 9 0", 1008},
	} {
		more := "method deep 1 0 1 2 1;load 0;ifzero 7;load 0;int 1;arith sub;callstatic 11 1;return;" +
			x.lines + ";return;map 7 1 1"
		m := machineOf(t, source{main: caught(0, 1, "int 22;callstatic 11 1;int 77;print;return"), more: more}, 2)
		play(m, 1000)
		t.Run(x.lines, func(t *testing.T) { wantOut(t, m, x.fault) })
	}
}

func TestP21_2Throw(t *testing.T) {
	for _, x := range []struct {
		main, more string
		out        []int
		state      int
	}{
		// Of what is thrown the first row that covers it and takes its class.
		{"0 2;new 16;throw;is 16;print;return;pop;int 2;print;return;handler 0 2 2 15;handler 0 2 5 16;map 2 0 31;" +
			"map 5 0 32", "", out(1), 5},
		{"0 2;new 15;throw;is 16;print;return;pop;int 2;print;return;handler 0 2 2 16;handler 0 2 5 15;map 2 0 32;" +
			"map 5 0 31", "", out(2), 5},
		{"0 2;new 15;throw;is 16;print;return;handler 0 2 2 16;map 2 0 32", "", nil, 6},
		{"0 2;new 15;throw;is 15;print;return;handler 0 2 2 1;map 2 0 17", "", out(1), 5},
		{"0 2;null;throw;is 2;print;return;handler 0 2 2 1;map 2 0 17", "", out(1), 5},
		// From is covered, To is not.
		{"0 2;new 15;throw;is 15;print;return;handler 1 2 2 1;map 2 0 17", "", out(1), 5},
		{"0 2;new 15;throw;is 15;print;return;handler 0 1 2 1;map 2 0 17", "", nil, 6},
		{"0 2;new 15;throw;is 15;print;return;handler 2 5 2 1;map 2 0 17", "", nil, 6},
		// What else stands on the stack is gone, and thrown again it goes to no handler that does not cover it there.
		{"0 4;int 1;int 2;new 15;throw;int 5;swap;throw;is 15;print;return;handler 0 4 4 15;handler 4 7 7 1;map 4 0 31;" +
			"map 7 0 17", "", out(1), 5},
		{"0 4;new 15;throw;throw;handler 0 2 2 15;map 2 0 31", "", nil, 6},
		// Out of calls: it is the call's place that is covered or not, and the caller's stack that is gone.
		{"0 4;int 9;callstatic 11 1;return;is 15;print;return;handler 1 2 3 15;map 3 0 31",
			"method bad 1 0 0 2;new 16;throw", out(1), 5},
		{"0 4;int 9;callstatic 11 1;return;is 15;print;return;handler 0 1 3 15;map 3 0 31",
			"method bad 1 0 0 2;new 16;throw", nil, 6},
		{"0 4;int 9;callstatic 11 1;return;is 15;print;return;handler 2 3 3 15;map 3 0 31",
			"method bad 1 0 0 2;new 16;throw", nil, 6},
		{"0 4;callstatic 11 1;return;is 15;print;return;handler 0 2 2 15;map 2 0 31",
			"method bad 1 0 0 2;callstatic 11 2;return;is 2;print;return;handler 0 1 2 2;map 2 0 18;" +
				"method worse 1 0 0 2;new 16;throw", out(1), 5},
		{"0 4;callstatic 11 1;return;is 15;print;return;handler 0 2 2 15;map 2 0 31",
			"method bad 1 0 0 2;callstatic 11 2;int 8;print;return;is 16;print;return;handler 0 1 4 16;map 4 0 32;" +
				"method worse 1 0 0 2;new 16;throw", out(1), 5},
	} {
		m := machineOf(t, source{main: x.main, more: x.more}, 2)
		play(m, 100)
		t.Run(x.main, func(t *testing.T) {
			wantOut(t, m, x.out...)
			wantThreads(t, m, api.Thread{State: x.state}, api.Thread{State: api.ThreadIdle})
		})
	}
}

// TestP21_2FaultsAreTheMachinesOwn puts what is caught into an array, the last object that is made.
func TestP21_2FaultsAreTheMachinesOwn(t *testing.T) {
	for fault, lines := range map[int]string{
		1: "null;throw", 2: "int 0;newints;int 0;getint;pop;return", 3: "int -1;newints;pop;return",
		4: "int 1;int 0;arith div;pop;return", 5: "new 0;cast 13;pop;return", 6: "new 0;leave;return", 7: "callstatic 11 0;return",
	} {
		at := strconv.Itoa(strings.Count(lines, ";") + 1)
		keep := ";putstatic 11 1;int 1;newrefs;int 0;getstatic 11 1;putref;return;"
		m := machineOf(t, source{main: "0 3;" + lines + keep + "handler 0 " + at + " " + at + " 1;map " + at + " 0 17"}, 2)
		play(m, 1000)
		wantStates(t, m, api.ThreadEnded, api.ThreadIdle)
		wantField(t, m, m.Objects(), 0, fault, true)
	}
}
