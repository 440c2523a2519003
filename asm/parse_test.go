package asm_test

import (
	"strconv"
	"strings"
	"testing"

	"gneiss/api"
	"gneiss/asm"
	"gneiss/class"
	"gneiss/code"
)

func TestP19_2AProgram(t *testing.T) {
	wantParsed(t, small, smallProgram())
	wantParsed(t, strings.TrimSuffix(small, "\n"), smallProgram())
	wantParsed(t, "main -2147483648\nend", api.Program{Main: -2147483648})
	wantParsed(t, "main 2147483647\nend\n", api.Program{Main: 2147483647})
}

func TestP19_2EachInstruction(t *testing.T) {
	for op, word := range code.Names() {
		for _, i := range []api.Ins{{Op: op}, {Op: op, A: 3, B: 7}, {Op: op, A: 11}, {Op: op, B: -1}} {
			text, e := code.Text(i)
			if e != api.OK {
				t.Fatal(e)
			}
			i, _ = code.Parse(text)
			wantParsed(t, within(text), api.Program{Main: 11, Classes: []api.Class{
				{Name: "A", Methods: []api.Method{{Name: "m", Code: []api.Ins{i}}}}}})
			wantFault(t, within(text+" 1"), 4, api.ErrAsmWord)
			wantFault(t, within(text+" add"), 4, api.ErrAsmWord)
			wantFault(t, within(text+" "), 4, api.ErrAsmWord)
			wantFault(t, within(" "+text), 4, api.ErrAsmWord)
			if less, _, has := strings.Cut(text, " "); has {
				wantFault(t, within(less), 4, api.ErrAsmWord)
				wantFault(t, within(text[:strings.LastIndex(text, " ")]), 4, api.ErrAsmWord)
				wantFault(t, within(strings.Replace(text, " ", "  ", 1)), 4, api.ErrAsmWord)
			}
		}
		wantFault(t, within(strings.ToUpper(word)), 4, api.ErrAsmWord)
		wantFault(t, within(word+"x"), 4, api.ErrAsmWord)
		wantFault(t, within(word+"\r"), 4, api.ErrAsmWord)
	}
}

func TestP19_2ArithsWords(t *testing.T) {
	for op, word := range strings.Fields("add sub mul div rem neg and or xor shl shr ushr") {
		wantParsed(t, within("arith "+word), api.Program{Main: 11, Classes: []api.Class{
			{Name: "A", Methods: []api.Method{{Name: "m", Code: []api.Ins{{Op: api.InsArith, A: op}}}}}}})
	}
	for _, word := range []string{"", "0", "1", "11", "12", "-1", "Add", "adds", "ad", "add\r", "add 1"} {
		wantFault(t, within("arith "+word), 4, api.ErrAsmWord)
	}
}

// numberLines have % where a number stands; any number of layer 1 may stand there.
var numberLines = []string{"int %", "load %", "goto %", "new %", "getfield % 0", "getfield 11 %", "callstatic % 0",
	"handler % 0 0 0", "handler 0 % 0 0", "handler 0 0 % 0", "handler 0 0 0 %", "map % 0", "map 0 1 %", "map 0 2 5 %",
	"map 0 0 %", "map 0 1 5 %", "map 0 0 % 5", "class B % 0", "class B 0 0 %", "class B 0 0 12 %", "method n 0 % 0 0",
	"method n 0 0 0 0 %", "method n 0 0 0 0 1 %"}

func TestP19_2Numbers(t *testing.T) {
	isTaken := func(line string) {
		t.Helper()
		if _, at, e := asm.Parse(within(line)); at != 0 || e != api.OK {
			t.Errorf("%q: %d, %d", line, at, e)
		}
	}
	for _, line := range numberLines {
		for _, word := range []string{"0", "1", "-1", "10", "-10", "909", "2147483647", "-2147483648"} {
			isTaken(strings.Replace(line, "%", word, 1))
		}
		for _, word := range []string{"00", "01", "-0", "-01", "+1", "+0", "--1", "-", "+", "x", "1x", "0x1", "1_0", "1.0", "1e1",
			"2147483648", "-2147483649", "99999999999999999999", "-99999999999999999999", "١", "add", "1\t", "1\r", "\x00"} {
			wantFault(t, within(strings.Replace(line, "%", word, 1)), 4, api.ErrAsmForm)
		}
		// Between two blanks there is no word.
		wantFault(t, within(strings.Replace(line, "%", "", 1)), 4, api.ErrAsmWord)
	}
	for _, word := range []string{"00", "-0", "x", "2147483648", "-2147483649", "11\r"} {
		wantFault(t, "main "+word+"\nend\n", 1, api.ErrAsmForm)
	}
}

func TestP19_2Limits(t *testing.T) {
	for _, one := range []struct {
		line        string
		least, most int
	}{
		{"class B 0 %", 0, 3},
		{"method n % 0 0 0", 0, 1},
		{"method n 0 0 % 0", 0, 24},
		{"method n 0 0 0 %", 0, 24},
	} {
		for _, x := range []int{-2147483648, -25, -1, 0, 1, 2, 3, 4, 5, 23, 24, 25, 26, 2147483647} {
			text := within(strings.Replace(one.line, "%", strconv.Itoa(x), 1))
			if x < one.least || x > one.most {
				wantFault(t, text, 4, api.ErrAsmForm)
			} else if _, line, e := asm.Parse(text); line != 0 || e != api.OK {
				t.Errorf("%q: %d, %d", text, line, e)
			}
		}
	}
}

func TestP19_2Lists(t *testing.T) {
	for _, one := range []struct {
		line string
		most int
	}{
		{"class B 0 0", 8}, {"method n 0 0 0 0", 8}, {"map 0 0", 24}, {"map 0 1 5", 24}, {"map 0 24" + strings.Repeat(" 5", 24), 24},
	} {
		full := one.line + strings.Repeat(" 1", one.most)
		if _, line, e := asm.Parse(within(full)); line != 0 || e != api.OK {
			t.Errorf("%q: %d, %d", full, line, e)
		}
		wantFault(t, within(full+" 1"), 4, api.ErrAsmForm)
		wantFault(t, within(full+strings.Repeat(" 1", 500)), 4, api.ErrAsmForm)
		wantFault(t, within(full+"  1"), 4, api.ErrAsmWord)
	}
	wantFault(t, within("class 1 0 0"+strings.Repeat(" 1", 9)), 4, api.ErrAsmName)
}

func TestP19_2MapsCounts(t *testing.T) {
	for _, one := range []struct {
		line string
		code api.Errno
	}{
		{"map", api.ErrAsmWord}, {"map 0", api.ErrAsmWord}, {"map x", api.ErrAsmWord}, {"map 0 0", api.OK},
		{"map 0 1", api.ErrAsmWord}, {"map 0 1 1", api.OK}, {"map 0 2 1", api.ErrAsmWord}, {"map 0 2 1 1", api.OK},
		{"map 0 2 1 1 1", api.OK},
		// The count is read ahead of how many words there must be, and these ahead of all other numbers.
		{"map 0 x", api.ErrAsmForm}, {"map 0 01", api.ErrAsmForm}, {"map 0 x 1 1", api.ErrAsmForm},
		{"map x 1", api.ErrAsmWord}, {"map x 2 y", api.ErrAsmWord}, {"map x 1 y", api.ErrAsmForm},
		{"map 0 -1", api.ErrAsmForm}, {"map 0 -1 1 1", api.ErrAsmForm}, {"map 0 -2147483648", api.ErrAsmForm},
		{"map 0 2147483647", api.ErrAsmWord}, {"map 0 2147483648", api.ErrAsmForm}, {"map 0 25 1", api.ErrAsmWord},
		{"map 0 24" + strings.Repeat(" 1", 24), api.OK}, {"map 0 24" + strings.Repeat(" 1", 23), api.ErrAsmWord},
		{"map 0 25" + strings.Repeat(" 1", 25), api.ErrAsmForm}, {"map 0  1", api.ErrAsmWord}, {"map 0 1 ", api.ErrAsmWord},
	} {
		if one.code != api.OK {
			wantFault(t, within(one.line), 4, one.code)
		} else if _, line, e := asm.Parse(within(one.line)); line != 0 || e != api.OK {
			t.Errorf("%q: %d, %d", one.line, line, e)
		}
	}
}

func TestP19_2Names(t *testing.T) {
	for _, line := range []string{"class % 0 0", "method % 0 0 0 0"} {
		for _, name := range []string{"a", "_", "Z9", "_9", "abcdefghijklmnop", "main", "class", "end", "nop"} {
			if _, at, e := asm.Parse(within(strings.Replace(line, "%", name, 1))); at != 0 || e != api.OK {
				t.Errorf("%q: %d, %d", name, at, e)
			}
		}
		for _, name := range []string{"9", "9a", "-", "a-", "a.b", "abcdefghijklmnopq", "é", "a\r", "a\x00", "\t"} {
			wantFault(t, within(strings.Replace(line, "%", name, 1)), 4, api.ErrAsmName)
		}
		wantFault(t, within(strings.Replace(line, "%", "", 1)), 4, api.ErrAsmWord)
	}
	for _, word := range []string{"field", "static"} {
		wantFault(t, lines("main 11", "class A 0 0", word+" 9 1", "end"), 3, api.ErrAsmName)
		wantFault(t, lines("main 11", "class A 0 0", word+" 9 x", "end"), 3, api.ErrAsmName)
		wantFault(t, lines("main 11", "class A 0 0", word+" a x", "end"), 3, api.ErrAsmForm)
		wantFault(t, lines("main 11", "class A 0 0", word+" 9", "end"), 3, api.ErrAsmWord)
		wantFault(t, lines("main 11", "class A 0 0", word+" 9 x 1", "end"), 3, api.ErrAsmWord)
	}
}

func TestP19_2HowManyWords(t *testing.T) {
	for line, least := range map[string]int{"main 11": 2, "class A 0 0": 4, "field a 1": 3, "static a 1": 3, "method a 0 0 0 0": 6,
		"handler 0 0 0 0": 5, "map 0 0": 3, "end": 1} {
		words := strings.Fields(line)
		if len(words) != least {
			t.Fatal(line)
		}
		ahead := []string{"main 11", "class A 0 0"}
		switch words[0] {
		case "main":
			ahead = nil
		case "class":
			ahead = ahead[:1]
		case "handler", "map":
			ahead = append(ahead, "method m 0 0 0 0")
		}
		at := len(ahead) + 1
		for count := 1; count < least; count++ {
			wantFault(t, lines(append(ahead, strings.Join(words[:count], " "))...), at, api.ErrAsmWord)
		}
		for _, wrong := range []string{line + " ", " " + line, strings.Replace(line, " ", "  ", 1), strings.Replace(line, " ", "\t", 1),
			strings.ReplaceAll(line, " ", ""), strings.ToUpper(line), line + " \r"} {
			if wrong == line {
				continue
			}
			hasList := strings.Contains(" class method map ", " "+words[0]+" ")
			code := api.ErrAsmWord
			if hasList && wrong == line+" \r" {
				code = api.ErrAsmForm
			}
			wantFault(t, lines(append(ahead, wrong)...), at, code)
		}
	}
}

func TestP19_2WhereLinesStand(t *testing.T) {
	const m, c, f, s, n, h, x, i = "main 11", "class A 0 0", "field a 1", "static a 1", "method n 0 0 0 0", "handler 0 0 0 0", "map 0 0", "nop"
	for _, one := range []struct {
		all  []string
		line int
	}{
		{[]string{m, "end"}, 0}, {[]string{m, c, "end"}, 0}, {[]string{m, c, c, "end"}, 0}, {[]string{m, c, f, s, n, i, h, x, c, "end"}, 0},
		{[]string{m, c, f, f, s, s, n, n, i, i, h, h, x, x, n, x, "end"}, 0}, {[]string{m, c, n, n, i, n, h, n, x, c, n, "end"}, 0},
		{nil, 1}, {[]string{""}, 1}, {[]string{m}, 2}, {[]string{"end"}, 1}, {[]string{c, "end"}, 1}, {[]string{m, m, "end"}, 2},
		{[]string{m, c}, 3}, {[]string{m, c, n, i}, 5}, {[]string{m, "end", "end"}, 3}, {[]string{m, "end", ""}, 3}, {[]string{m, "end", c}, 3},
		{[]string{m, "", "end"}, 2}, {[]string{"", m, "end"}, 1}, {[]string{m, f, "end"}, 2}, {[]string{m, s, "end"}, 2}, {[]string{m, n, "end"}, 2},
		{[]string{m, i, "end"}, 2}, {[]string{m, h, "end"}, 2}, {[]string{m, x, "end"}, 2}, {[]string{m, c, i, "end"}, 3}, {[]string{m, c, h, "end"}, 3},
		{[]string{m, c, x, "end"}, 3}, {[]string{m, c, f, i, "end"}, 4}, {[]string{m, c, s, f, "end"}, 4}, {[]string{m, c, n, f, "end"}, 4},
		{[]string{m, c, n, s, "end"}, 4}, {[]string{m, c, n, h, i, "end"}, 5}, {[]string{m, c, n, x, i, "end"}, 5}, {[]string{m, c, n, x, h, "end"}, 5},
		{[]string{m, c, n, i, s, "end"}, 5}, {[]string{m, c, n, h, f, "end"}, 5}, {[]string{m, c, n, x, m, "end"}, 5}, {[]string{m, c, m, "end"}, 3},
		// Where a line can't stand its words are not asked for.
		{[]string{m, "field 9 x", "end"}, 2}, {[]string{m, c, "int x", "end"}, 3}, {[]string{m, "end", "class 9 0 0"}, 3}, {[]string{c, "main x"}, 1},
		// The first line, whatever comes behind it.
		{[]string{m, c, "word", "class 9 0 0", "end"}, 3},
	} {
		text := lines(one.all...)
		if one.all == nil {
			text = ""
		}
		if one.line > 0 {
			wantFault(t, text, one.line, api.ErrAsmWord)
		} else if _, line, e := asm.Parse(text); line != 0 || e != api.OK {
			t.Errorf("%q: %d, %d", text, line, e)
		}
	}
	wantFault(t, lines(m, c, n, "int x", "word", "end"), 4, api.ErrAsmForm)
	wantFault(t, lines(m, "class 9 0 0", "int x", "word", "end"), 2, api.ErrAsmName)
}

func TestP19_2HowManyLines(t *testing.T) {
	numbered := func(format string, count int) []string {
		var all []string
		for i := range count {
			all = append(all, strings.ReplaceAll(format, "%d", strconv.Itoa(i)))
		}
		return all
	}
	for _, one := range []struct {
		ahead        []string
		line, wrong  string
		most         int
		behind, code string
	}{
		{[]string{"main 11"}, "class A%d 0 0", "class 9 0 0", 40, "field a x", "name"},
		{[]string{"main 11", "class A 0 0"}, "field a%d 1", "field 9 1", 24, "field a x", "name"},
		{[]string{"main 11", "class A 0 0"}, "static a%d 1", "static a x", 24, "static 9 x", "form"},
		{[]string{"main 11", "class A 0 0"}, "method a%d 0 0 0 0", "method 9 0 0 0 0", 24, "int x", "name"},
		{[]string{"main 11", "class A 0 0", "method m 0 0 0 0"}, "int %d", "int", 300, "int x", "word"},
		{[]string{"main 11", "class A 0 0", "method m 0 0 0 0"}, "nop", "nop 1", 300, "int x", "word"},
		{[]string{"main 11", "class A 0 0", "method m 0 0 0 0"}, "arith add", "arith x", 300, "int x", "word"},
		{[]string{"main 11", "class A 0 0", "method m 0 0 0 0"}, "handler %d 0 0 0", "handler 0 0 0", 16, "map x 0", "word"},
		{[]string{"main 11", "class A 0 0", "method m 0 0 0 0"}, "map %d 0", "map 0 1", 64, "map 0 x", "word"},
	} {
		full := append(append([]string{}, one.ahead...), numbered(one.line, one.most)...)
		if _, line, e := asm.Parse(lines(append(full, "end")...)); line != 0 || e != api.OK {
			t.Errorf("%d of %q: %d, %d", one.most, one.line, line, e)
		}
		more := strings.ReplaceAll(one.line, "%d", "999")
		at := len(full) + 1
		wantFault(t, lines(append(full, more, "end")...), at, api.ErrAsmForm)
		wantFault(t, lines(append(full, more, one.behind, "end")...), at, api.ErrAsmForm)
		wantFault(t, lines(append(full, more)...), at, api.ErrAsmForm)
		code := map[string]api.Errno{"name": api.ErrAsmName, "form": api.ErrAsmForm, "word": api.ErrAsmWord}[one.code]
		wantFault(t, lines(append(full, one.wrong, "end")...), at, code)
	}
}

func TestP19_2TooLongATextOrBytes(t *testing.T) {
	// A text of just MaxText bytes is gone through.
	wantFault(t, strings.Repeat("x", api.MaxText), 1, api.ErrAsmWord)
	wantFault(t, strings.Repeat("x", api.MaxText+1), 0, api.ErrAsmLong)
	wantFault(t, strings.Repeat("\n", api.MaxText), 1, api.ErrAsmWord)
	long := small + strings.Repeat("\n", api.MaxText)
	wantFault(t, long, 0, api.ErrAsmLong)

	// 35 methods of 300 instructions, and one of some more; a nop has 3 bytes, int 64 has 4.
	textOf := func(nops, ints int) string {
		full := "method m 0 0 0 0\n" + strings.Repeat("nop\n", 300)
		return "main 11\nclass A 0 0\n" + strings.Repeat(full, 20) + "class B 0 0\n" + strings.Repeat(full, 15) +
			"method m 0 0 0 0\n" + strings.Repeat("nop\n", nops) + strings.Repeat("int 64\n", ints) + "end\n"
	}
	of := func(bytes int) string {
		p, _, _ := asm.Parse(textOf(100, 0))
		least, e := class.Encode(p)
		if e != api.OK {
			t.Fatal(e)
		}
		more := bytes - len(least)
		// One int in place of a nop has one byte more.
		return textOf(100+more/3-more%3, more%3)
	}
	if _, line, e := asm.Parse(of(api.MaxBytes)); line != 0 || e != api.OK {
		t.Errorf("%d, %d", line, e)
	}
	over := of(api.MaxBytes + 1)
	if len(over) > api.MaxText {
		t.Fatal(len(over))
	}
	wantFault(t, over, 0, api.ErrAsmLong)
	// All else comes first.
	wantFault(t, strings.TrimSuffix(over, "end\n"), strings.Count(over, "\n"), api.ErrAsmWord)
}
