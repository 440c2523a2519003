package class_test

import (
	"encoding/binary"
	"strings"
	"testing"
	"unsafe"

	"gneiss/api"
	"gneiss/class"
)

func TestP14_1Programs(t *testing.T) {
	wantProgram(t, "GNSS\x00\x00", api.Program{})
	wantProgram(t, "GNSS\x0d\x00", api.Program{Main: -7})
	wantProgram(t, "GNSS\x16\x02\x04Ab\x02\x18\x00\x00\x00\x00",
		api.Program{Main: 11, Classes: []api.Class{{Name: "Ab", Face: true, Super: 12}}})
	wantProgram(t, "GNSS\x16\x02\x04Ab\x04\x00\x04\x18\x1a\x02\x02x\x02\x04\x02y\x06\x02z\x08\x00",
		api.Program{Main: 11, Classes: []api.Class{{
			Name: "Ab", Final: true, Faces: []int{12, 13}, Fields: []api.Field{{Name: "x", Type: 1}},
			Statics: []api.Field{{Name: "y", Type: 3}, {Name: "z", Type: 4}},
		}}})
	wantProgram(t, "GNSS\x16\x02\x02A\x06\x00\x00\x00\x00\x02\x02m\x02\x04\x02\x06\x08\x0a\x0c"+
		"\x04\x02\x0e\x00\x3a\x00\x01\x02\x10\x12\x14\x16\x02\x18\x04\x02\x06\x02\x08",
		api.Program{Main: 11, Classes: []api.Class{{
			Name: "A", Face: true, Final: true, Methods: []api.Method{{
				Name: "m", Static: true, Args: []int{1, 3}, Ret: 4, Locals: 5, Stack: 6,
				Code:  []api.Ins{{Op: 1, A: 7}, {Op: 29, B: -1}},
				Table: []api.Handler{{From: 8, To: 9, At: 10, Class: 11}},
				Maps:  []api.Map{{At: 12, Locals: []int{1, 3}, Stack: []int{4}}},
			}},
		}}})
	s, _ := spell(full())
	wantProgram(t, s, full())
}

func TestP14_1Long(t *testing.T) {
	s, _ := spell(full())
	for _, size := range []int{api.MaxBytes + 1, api.MaxBytes + 2, 1 << 16, 1 << 20} {
		wantFault(t, strings.Repeat("G", size), 0, api.ErrClassLong)
		wantFault(t, "GNSS"+strings.Repeat("\x80", size-4), 0, api.ErrClassLong)
		wantFault(t, s+strings.Repeat("\x00", size-len(s)), 0, api.ErrClassLong)
	}
	wantFault(t, strings.Repeat("G", api.MaxBytes), 0, api.ErrClassMagic)
	wantFault(t, "GNSS"+strings.Repeat("\x80", api.MaxBytes-4), 4, api.ErrClassForm)
	wantFault(t, s+strings.Repeat("\x00", api.MaxBytes-len(s)), len(s), api.ErrClassTail)
}

func TestP14_1Magic(t *testing.T) {
	for _, s := range []string{
		"", "G", "GN", "GNS", "gnss", "GNSs", "GNST", "XNSS", "GXSS", "GNXS", " GNSS", "\x00GNSS\x00\x00", "NSSG\x00\x00",
		"\x08GNSS\x00\x00", "GGNSS\x00\x00", "GNS\x00\x00", "\x80\x00",
	} {
		wantFault(t, s, 0, api.ErrClassMagic)
	}
	wantFault(t, "GNSS", 4, api.ErrClassCut)
}

func TestP14_1CutAtEveryPlace(t *testing.T) {
	s, spots := spell(full())
	for _, spot := range spots {
		for end := spot.at; end < spot.behind; end++ {
			wantFault(t, s[:end], spot.at, api.ErrClassCut)
		}
	}
}

func TestP14_1CutComesAheadOfTheBytesOfAName(t *testing.T) {
	head := "GNSS\x00\x02"
	for _, rest := range []string{"\x02", "\x04A", "\x049", "\x06 -", "\x20\xff\xff\xff", "\x20"} {
		wantFault(t, head+rest, 6, api.ErrClassCut)
	}
	for _, rest := range []string{"\x22", "\x22A", "\x01", "\x01A", "\x24", "\xff\xff\xff\xff\x0f", "\xfe\xff\xff\xff\x0f"} {
		wantFault(t, head+rest, 6, api.ErrClassName)
	}
}

// behinds is what may stand behind a fault, since it changes nothing: the rest of the program, nothing, worse.
func behinds(s string, spot spot) []string {
	return []string{s[spot.behind:], "", "\x80\x00\x01\xff\xff\xff\xff\xff", strings.Repeat("\x00", 100)}
}

func TestP14_1NoNumber(t *testing.T) {
	s, spots := spell(full())
	for _, spot := range spots {
		for _, bad := range []string{
			"\x80\x00", "\xff\x00", "\x80\x80\x00", "\x81\x80\x80\x80\x00", "\xff\xff\xff\xff\x10", "\x80\x80\x80\x80\x7f",
			"\x80\x80\x80\x80\x80", "\xff\xff\xff\xff\x8f", "\xff\xff\xff\xff\xff\x01",
		} {
			for _, behind := range behinds(s, spot) {
				wantFault(t, s[:spot.at]+bad+behind, spot.at, api.ErrClassForm)
			}
		}
		wantFault(t, s[:spot.at]+"\xff\xff\xff\xff", spot.at, api.ErrClassCut)
	}
}

func TestP14_1NumbersOutsideTheirLimits(t *testing.T) {
	s, spots := spell(full())
	seen := map[kind]int{}
	for _, spot := range spots {
		seen[spot.kind]++
		if spot.kind == number || spot.kind == text {
			continue
		}
		above := api.ErrClassForm
		if spot.kind == count {
			above = api.ErrClassMany
		}
		for _, behind := range behinds(s, spot) {
			for _, x := range []int{-1, -2, -spot.most, -64, -65, -100000, least} {
				wantFault(t, s[:spot.at]+put(x)+behind, spot.at, api.ErrClassForm)
			}
			for _, x := range []int{spot.most + 1, spot.most + 2, 2*spot.most + 1, 1000, 32768, 1 << 20, most} {
				wantFault(t, s[:spot.at]+put(x)+behind, spot.at, above)
			}
		}
		wantFault(t, s[:spot.at]+put(spot.most), spot.at+len(put(spot.most)), api.ErrClassCut)
	}
	for _, kind := range []kind{number, text, count, flags, size} {
		if seen[kind] < 4 {
			t.Errorf("only %d of kind %d", seen[kind], kind)
		}
	}
}

func TestP14_1AnyNumberOfLayer1IsTaken(t *testing.T) {
	want := full()
	for _, place := range numbersOf(&want) {
		was := *place
		for _, x := range []int{least, least + 1, -65, -64, -1, 0, 1, 63, 64, 300, 1 << 16, most} {
			*place = x
			s, _ := spell(want)
			wantProgram(t, s, want)
		}
		*place = was
	}
	for _, place := range sizesOf(&want) {
		was := *place
		for x := range 25 {
			*place = x
			s, _ := spell(want)
			wantProgram(t, s, want)
		}
		*place = was
	}
}

func TestP14_1Names(t *testing.T) {
	s, spots := spell(full())
	for _, spot := range spots {
		if spot.kind != text {
			continue
		}
		for _, name := range noNames() {
			wantFault(t, s[:spot.at]+putText(name)+s[spot.behind:], spot.at, api.ErrClassName)
			wantFault(t, s[:spot.at]+putText(name), spot.at, api.ErrClassName)
		}
		for _, x := range []int{-1, -16, least, 17, 1000, most} {
			for _, behind := range behinds(s, spot) {
				wantFault(t, s[:spot.at]+put(x)+behind, spot.at, api.ErrClassName)
			}
		}
	}
	want := full()
	for _, place := range namesOf(&want) {
		was := *place
		for _, *place = range names() {
			s, _ := spell(want)
			wantProgram(t, s, want)
		}
		*place = was
	}
}

func TestP14_1Flags(t *testing.T) {
	for x := range 4 {
		want := api.Program{Classes: []api.Class{{Name: "A", Face: x == 1 || x == 3, Final: x >= 2}}}
		wantProgram(t, "GNSS\x00\x02\x02A"+put(x)+"\x00\x00\x00\x00\x00", want)
	}
	for x := range 2 {
		want := api.Program{Classes: []api.Class{{Name: "A", Methods: []api.Method{{Name: "m", Static: x == 1}}}}}
		wantProgram(t, "GNSS\x00\x02\x02A\x00\x00\x00\x00\x00\x02\x02m"+put(x)+"\x00\x00\x00\x00\x00\x00\x00", want)
	}
}

func TestP14_1Tail(t *testing.T) {
	for _, p := range []api.Program{{}, {Main: most}, full()} {
		s, _ := spell(p)
		for _, tail := range []string{"\x00", "\x80", "G", "\xff\xff\xff\xff\xff\xff", s, strings.Repeat("\x00", 1000)} {
			wantFault(t, s+tail, len(s), api.ErrClassTail)
		}
	}
}

func TestP14_1TheFirstOfTwoFaults(t *testing.T) {
	s, spots := spell(full())
	bad := "\x80\x00"
	for i, first := range spots {
		for _, second := range spots[i+1:] {
			two := s[:first.at] + bad + s[first.behind:second.at] + bad + s[second.behind:]
			wantFault(t, two, first.at, api.ErrClassForm)
			wantFault(t, s[:second.at]+bad+s[second.behind:], second.at, api.ErrClassForm)
		}
	}
}

// A reading is of the chapter's words, as a grammar that is walked: it tells the first fault and builds nothing.
type reading struct {
	s    string
	at   int
	code api.Errno
}

type step func(*reading)

func num(low, high int, below, above api.Errno) step {
	return func(r *reading) { r.take(low, high, below, above) }
}

// take is the number that comes next, if it is within its limits.
func (r *reading) take(low, high int, below, above api.Errno) int {
	x, length := binary.Varint([]byte(r.s[r.at:]))
	switch {
	case length == 0 && len(r.s)-r.at < 5:
		r.code = api.ErrClassCut
	case length <= 0 || length > 5 || x < least || x > most || length > 1 && r.s[r.at+length-1] == 0:
		r.code = api.ErrClassForm
	case int(x) < low:
		r.code = below
	case int(x) > high:
		r.code = above
	default:
		r.at += length
	}
	return int(x)
}

func anyNum() step {
	return num(least, most, api.OK, api.OK)
}

func within(high int) step {
	return num(0, high, api.ErrClassForm, api.ErrClassForm)
}

func nameStep(r *reading) {
	at := r.at
	length := r.take(0, 16, api.ErrClassName, api.ErrClassName)
	if r.code != api.OK {
		return
	}
	from := r.at
	r.at = at
	if length > len(r.s)-from {
		r.code = api.ErrClassCut
		return
	}
	name := r.s[from : from+length]
	letters := "abcdefghijklmnopqrstuvwxyzABCDEFGHIJKLMNOPQRSTUVWXYZ_"
	if strings.Trim(name, letters+"0123456789") != "" || name == "" || !strings.Contains(letters, name[:1]) {
		r.code = api.ErrClassName
		return
	}
	r.at = from + length
}

func many(high int, steps ...step) step {
	return func(r *reading) {
		n := r.take(0, high, api.ErrClassForm, api.ErrClassMany)
		for range n {
			r.walk(steps...)
			if r.code != api.OK {
				return
			}
		}
	}
}

func (r *reading) walk(steps ...step) {
	for _, step := range steps {
		if r.code == api.OK {
			step(r)
		}
	}
}

func firstFault(s string) (int, api.Errno) {
	if len(s) > 32768 {
		return 0, api.ErrClassLong
	}
	if len(s) < 4 || s[:4] != "GNSS" {
		return 0, api.ErrClassMagic
	}
	field := many(24, nameStep, anyNum())
	ins := many(300, anyNum(), anyNum(), anyNum())
	handler := many(16, anyNum(), anyNum(), anyNum(), anyNum())
	maps := many(64, anyNum(), many(24, anyNum()), many(24, anyNum()))
	methods := many(24, nameStep, within(1), many(8, anyNum()), anyNum(), within(24), within(24), ins, handler, maps)
	r := &reading{s: s, at: 4}
	r.walk(anyNum(), many(40, nameStep, within(3), anyNum(), many(8, anyNum()), field, field, methods))
	if r.code == api.OK && r.at < len(s) {
		r.code = api.ErrClassTail
	}
	if r.code == api.OK {
		return 0, api.OK
	}
	return r.at, r.code
}

// wantAsWords tells that Decode does with s what the chapter's words do, and is whether s is taken.
func wantAsWords(t *testing.T, s string) bool {
	t.Helper()
	at, want := firstFault(s)
	if want != api.OK {
		wantFault(t, s, at, want)
		return false
	}
	p, at, code := class.Decode(s)
	if again, _ := spell(p); at != 0 || code != api.OK || again != s {
		t.Fatalf("Decode(%q) = %v, %d, %d; want that program, 0, OK", s, p, at, code)
	}
	wantBytes(t, p, s)
	return true
}

// turned is s with a few bytes turned, put in or left out.
func turned(r *row, s string) string {
	bytes := []byte(s)
	for range 1 + r.next(3) {
		at := r.next(len(bytes))
		fresh := byte([]int{0, 1, 2, 4, 8, 50, 128, 255, r.next(256), r.next(256)}[r.next(10)])
		switch r.next(4) {
		case 0:
			bytes = append(bytes[:at:at], append([]byte{fresh}, bytes[at:]...)...)
		case 1:
			bytes = append(bytes[:at:at], bytes[at+1:]...)
		default:
			bytes[at] = fresh
		}
		if len(bytes) == 0 {
			break
		}
	}
	return string(bytes)
}

func TestP14_1AnyBytes(t *testing.T) {
	r := row(14)
	taken, refused := 0, 0
	for range 400 {
		s, _ := spell(r.program())
		if !wantAsWords(t, s) {
			t.Fatalf("%q is refused", s)
		}
		for range 100 {
			if wantAsWords(t, turned(&r, s)) {
				taken++
			} else {
				refused++
			}
		}
	}
	if taken < 1000 || refused < 1000 {
		t.Errorf("%d taken, %d refused: too few to tell", taken, refused)
	}
	for range 20000 {
		bytes := make([]byte, r.next(60))
		for i := range bytes {
			bytes[i] = byte(r.next(256) >> r.next(8))
		}
		wantAsWords(t, "GNSS"+string(bytes))
		wantAsWords(t, string(bytes))
	}
}

func TestP14_1ShortBytesAll(t *testing.T) {
	for _, head := range []string{
		"GNSS", "GNSS\x00", "GNSS\x00\x02", "GNSS\x00\x02\x02A", "GNSS\x00\x02\x02A\x00\x00\x00\x00\x00\x02\x02m",
	} {
		for first := range 256 {
			wantAsWords(t, head+string([]byte{byte(first)}))
			for second := range 256 {
				wantAsWords(t, head+string([]byte{byte(first), byte(second)}))
			}
		}
	}
}

func TestP14_1TheProgramIsNewMemory(t *testing.T) {
	s, _ := spell(full())
	bytes := []byte(s)
	first, _, _ := class.Decode(s)
	second, _, _ := class.Decode(s)
	low := uintptr(unsafe.Pointer(unsafe.StringData(s)))
	for _, name := range namesOf(&first) {
		if at := uintptr(unsafe.Pointer(unsafe.StringData(*name))); at >= low && at < low+uintptr(len(s)) {
			t.Fatalf("%q lies within the argument", *name)
		}
	}
	for i, place := range numbersOf(&first) {
		*place = i
	}
	for i, place := range numbersOf(&first) {
		if *place != i {
			t.Fatalf("two numbers of one answer are one: %d, %d", *place, i)
		}
	}
	c := &first.Classes[0]
	m := &c.Methods[0]
	_, _, _ = append(c.Faces, 7), append(m.Args, 7), append(m.Code, api.Ins{Op: 7})
	_, _ = append(m.Maps[0].Locals, 7), append(m.Maps[0].Stack, 7)
	for i, place := range numbersOf(&first) {
		if *place != i {
			t.Fatalf("the spare room of a list is another's: %d, %d", *place, i)
		}
	}
	if !same(second, full()) || s != string(bytes) {
		t.Error("two answers share memory")
	}
}

func TestP14_1FromSeveralGoroutines(t *testing.T) {
	s, _ := spell(full())
	done := make(chan bool)
	for range 8 {
		go func() {
			ok := true
			for end := range s {
				_, _, cut := class.Decode(s[:end])
				p, _, code := class.Decode(s)
				again, _ := class.Encode(p)
				ok = ok && (cut == api.ErrClassCut || end < 4) && code == api.OK && again == s
			}
			done <- ok
		}()
	}
	for range 8 {
		if !<-done {
			t.Error("answers of calls at one time are others")
		}
	}
}

func TestP14_1HowLongANameMayBe(t *testing.T) {
	head := "GNSS\x00\x02"
	rest := "\x00\x00\x00\x00\x00\x00"
	name := "_bcdefghijklmn09"
	wantProgram(t, head+"\x20"+name+rest, api.Program{Classes: []api.Class{{Name: name}}})
	wantFault(t, head+"\x22"+name+"x"+rest, 6, api.ErrClassName)
	wantFault(t, head+"\x00"+rest, 6, api.ErrClassName)
}
