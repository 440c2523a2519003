package code_test

import (
	"slices"
	"strconv"
	"strings"
	"sync"
	"testing"

	"gneiss/api"
	"gneiss/code"
)

func TestP16_1Names(t *testing.T) {
	if got := code.Names(); len(words) != 47 || !slices.Equal(got, words) {
		t.Errorf("Names() = %v; want %v", got, words)
	}
	for word, op := range map[string]int{
		"nop": api.InsNop, "int": api.InsInt, "arith": api.InsArith, "ifnull": api.InsIfNull, "putstatic": api.InsPutStatic,
		"putref": api.InsPutRef, "callface": api.InsCallFace, "return": api.InsReturn, "throw": api.InsThrow,
		"notifyall": api.InsNotifyAll, "read": api.InsRead, "makeweak": api.InsMakeWeak, "collect": api.InsCollect,
	} {
		if code.Names()[op] != word {
			t.Errorf("Names()[%d] = %q; want %q", op, code.Names()[op], word)
		}
	}
}

func TestP16_1NamesAreNewMemory(t *testing.T) {
	first := code.Names()
	for i := range first {
		first[i] = "changed"
	}
	if got := code.Names(); !slices.Equal(got, words) {
		t.Errorf("Names() = %v; want %v", got, words)
	}
	wantText(t, api.Ins{Op: api.InsDup}, "dup", api.OK)
}

// textOf is the chapter's words done plainly, of an instruction that has a text.
func textOf(i api.Ins) string {
	s := words[i.Op]
	if i.Op == api.InsArith {
		return s + " " + strings.Fields(operationWords)[i.A]
	}
	if counts[i.Op] > 0 {
		s += " " + strconv.Itoa(i.A)
	}
	if counts[i.Op] > 1 {
		s += " " + strconv.Itoa(i.B)
	}
	return s
}

func TestP16_1ThereAndBack(t *testing.T) {
	for op := range 47 {
		for _, a := range extremes {
			for _, b := range extremes {
				i := api.Ins{Op: op, A: a, B: b}
				if op == api.InsArith && (a < 0 || a > 11) {
					wantText(t, i, "", api.ErrCodeArgs)
					continue
				}
				// Operands that it has not are not told, so they are 0 on the way back.
				back := i
				if counts[op] < 2 {
					back.B = 0
				}
				if counts[op] < 1 {
					back.A = 0
				}
				wantText(t, i, textOf(i), api.OK)
				wantParsed(t, textOf(i), back, api.OK)
			}
		}
	}
}

func TestP16_1Texts(t *testing.T) {
	for s, i := range map[string]api.Ins{
		"nop": {}, "int 0": {Op: api.InsInt}, "int -2147483648": {Op: api.InsInt, A: -1 << 31},
		"int 9223372036854775807": {Op: api.InsInt, A: 1<<63 - 1}, "int -9223372036854775808": {Op: api.InsInt, A: -1 << 63},
		"load 23": {Op: api.InsLoad, A: 23}, "store -1": {Op: api.InsStore, A: -1}, "arith add": {Op: api.InsArith},
		"arith neg": {Op: api.InsArith, A: api.ArithNeg}, "arith ushr": {Op: api.InsArith, A: api.ArithUshr},
		"goto 299": {Op: api.InsGoto, A: 299}, "ifless 10": {Op: api.InsIfLess, A: 10}, "new 11": {Op: api.InsNew, A: 11},
		"getfield 11 0": {Op: api.InsGetField, A: 11}, "putstatic 0 -7": {Op: api.InsPutStatic, B: -7},
		"callvirtual 9 0": {Op: api.InsCallVirtual, A: 9}, "callface -1 -100": {Op: api.InsCallFace, A: -1, B: -100},
		"is 10": {Op: api.InsIs, A: 10}, "cast 0": {Op: api.InsCast}, "notifyall": {Op: api.InsNotifyAll},
	} {
		wantText(t, i, s, api.OK)
		wantParsed(t, s, i, api.OK)
	}
}

func TestP16_1NoInstruction(t *testing.T) {
	for _, op := range append(numbers(47, 300), extremes...) {
		if op >= 0 && op < 47 {
			continue
		}
		wantText(t, api.Ins{Op: op}, "", api.ErrCodeOp)
		wantText(t, api.Ins{Op: op, A: -1, B: 100}, "", api.ErrCodeOp)
	}
}

func TestP16_1ArithsOperations(t *testing.T) {
	for a, word := range strings.Fields(operationWords) {
		wantText(t, api.Ins{Op: api.InsArith, A: a}, "arith "+word, api.OK)
		wantText(t, api.Ins{Op: api.InsArith, A: a, B: 5}, "arith "+word, api.OK)
		wantParsed(t, "arith "+word, api.Ins{Op: api.InsArith, A: a}, api.OK)
		wantParsed(t, "arith "+strconv.Itoa(a), api.Ins{}, api.ErrCodeArgs)
		wantParsed(t, "int "+word, api.Ins{}, api.ErrCodeArgs)
		wantParsed(t, "arith "+word+" 0", api.Ins{}, api.ErrCodeArgs)
		wantParsed(t, "arith "+strings.ToUpper(word), api.Ins{}, api.ErrCodeArgs)
		wantParsed(t, word, api.Ins{}, api.ErrCodeOp)
	}
	for _, word := range []string{"", " add", "add ", "ad", "addd", "-1", "12", "add\n", "add add", "nop"} {
		wantParsed(t, "arith "+word, api.Ins{}, api.ErrCodeArgs)
	}
	wantParsed(t, "arith", api.Ins{}, api.ErrCodeArgs)
}

func TestP16_1NoWord(t *testing.T) {
	for _, s := range []string{
		"", " ", "  ", " nop", "NOP", "Nop", "no", "nopp", "nop\t", "nop\n", "nop\x00", "\x00nop", "int\t5", "int,5", "in 5", "5",
		"-", "é", "\xff", "getfield\u00a011\u00a00", "class", "end", "call", "if", "get field", " int 5", "\tint 5", "add",
		strings.Repeat("nop", 100000), "nopnop 5", "ints 5",
	} {
		wantParsed(t, s, api.Ins{}, api.ErrCodeOp)
	}
}

// Each instruction's text, with something done to it by which it is none.
func TestP16_1NoText(t *testing.T) {
	for op := range 47 {
		word := code.Names()[op]
		for count := range 5 {
			if count != counts[op] {
				wantParsed(t, word+strings.Repeat(" 1", count), api.Ins{}, api.ErrCodeArgs)
			}
		}
		right := textOf(api.Ins{Op: op, A: 7, B: 5})
		for _, s := range []string{right + " ", right + "  ", right + " 0", strings.Replace(right+" ", " ", "  ", 1), right + " x"} {
			wantParsed(t, s, api.Ins{}, api.ErrCodeArgs)
		}
		if counts[op] > 0 {
			wantParsed(t, right+"\n", api.Ins{}, api.ErrCodeArgs)
			wantParsed(t, strings.Replace(right, " ", " \t", 1), api.Ins{}, api.ErrCodeArgs)
		}
	}
}

func TestP16_1NoDigits(t *testing.T) {
	for _, digits := range []string{
		"", "-", "+", "+5", "-0", "+0", "00", "05", "-05", "--5", "5-", "- 5", "0x5", "5.0", "5e0", "1_000", "_5", "5_", "٥", "five",
		"\xff", "9223372036854775808", "-9223372036854775809", "99999999999999999999", "18446744073709551615", "5,", "5\x00",
		"0b1", "0o7", "x", "A", strings.Repeat("0", 100000), strings.Repeat("9", 100000), "-" + strings.Repeat("1", 100000),
		"4294967296a", "−5",
	} {
		wantParsed(t, "int "+digits, api.Ins{}, api.ErrCodeArgs)
		wantParsed(t, "goto "+digits, api.Ins{}, api.ErrCodeArgs)
		wantParsed(t, "getfield "+digits+" 5", api.Ins{}, api.ErrCodeArgs)
		wantParsed(t, "getfield 5 "+digits, api.Ins{}, api.ErrCodeArgs)
		wantParsed(t, "callface "+digits+" "+digits, api.Ins{}, api.ErrCodeArgs)
	}
	wantParsed(t, "nop"+strings.Repeat(" ", 1000000), api.Ins{}, api.ErrCodeArgs)
	wantParsed(t, "putfield"+strings.Repeat(" 1", 1000000), api.Ins{}, api.ErrCodeArgs)
}

// A text that is taken is the text of what it is taken as; all others are refused by their first word.
func TestP16_1AnyTexts(t *testing.T) {
	r := random(161)
	taken := 0
	for range 60000 {
		i := api.Ins{Op: r.next(47), A: pick(&r, extremes...), B: pick(&r, extremes...)}
		if i.Op == api.InsArith {
			i.A = r.next(12)
		}
		bytes := []byte(textOf(i))
		for range r.next(3) {
			at := r.next(len(bytes))
			switch r.next(3) {
			case 0:
				bytes[at] = pick(&r, []byte(" -0159ad\t")...)
			case 1:
				bytes = slices.Insert(bytes, at, pick(&r, []byte(" -0159ad+")...))
			case 2:
				bytes = append(slices.Delete(bytes, at, at+1), pick(&r, []byte(" 0")...))
			}
		}
		s := string(bytes)
		first, _, _ := strings.Cut(s, " ")
		got, e := code.Parse(s)
		switch {
		case !slices.Contains(words, first):
			if got != (api.Ins{}) || e != api.ErrCodeOp {
				t.Fatalf("Parse(%q) = %v, %d", s, got, e)
			}
		case e == api.OK:
			taken++
			if textOf(got) != s || counts[got.Op] < 2 && got.B != 0 || counts[got.Op] < 1 && got.A != 0 {
				t.Fatalf("Parse(%q) = %v", s, got)
			}
		case got != (api.Ins{}) || e != api.ErrCodeArgs || s == textOf(i):
			t.Fatalf("Parse(%q) = %v, %d", s, got, e)
		}
	}
	if taken < 15000 || taken > 45000 {
		t.Errorf("%d texts were taken", taken)
	}
}

func TestP16_1EndsAndJumps(t *testing.T) {
	ends := []int{api.InsGoto, api.InsReturn, api.InsGiveInt, api.InsGiveRef, api.InsThrow}
	jumps := []int{api.InsGoto, api.InsIfZero, api.InsIfLess, api.InsIfSame, api.InsIfNull}
	for _, op := range append(numbers(-300, 300), extremes...) {
		if code.Ends(op) != slices.Contains(ends, op) {
			t.Errorf("Ends(%d) = %v", op, code.Ends(op))
		}
		if code.Jumps(op) != slices.Contains(jumps, op) {
			t.Errorf("Jumps(%d) = %v", op, code.Jumps(op))
		}
	}
}

func TestR5FromSeveralGoroutines(t *testing.T) {
	p := program(api.Ins{Op: api.InsCallVirtual, A: mainClass, B: 1}, api.Ins{Op: api.InsReturn})
	var all sync.WaitGroup
	for op := range 47 {
		all.Go(func() {
			for range 50 {
				i := api.Ins{Op: op, A: 5}
				wantText(t, i, textOf(i), api.OK)
				wantChecked(t, p, mainClass, 0, 0, api.OK)
			}
		})
	}
	all.Wait()
}

func BenchmarkText(b *testing.B) {
	for i := range b.N {
		code.Text(api.Ins{Op: i % 47, A: i & 7})
	}
}

func BenchmarkParse(b *testing.B) {
	for range b.N {
		code.Parse("getfield 11 7")
	}
}
