package code_test

import (
	"math"
	"slices"
	"strings"
	"testing"

	"gneiss/api"
	"gneiss/code"
)

// chapter is the chapter's words in the row of the numbers Ins..., each with the operands that it has.
const chapter = `nop|int A|null|load A|store A|pop|dup|swap|arith A|goto A|ifzero A|ifless A|ifsame A|ifnull A|new A|` +
	`getfield A B|putfield A B|getstatic A B|putstatic A B|newints|newrefs|length|getint|putint|getref|putref|` +
	`callstatic A B|callvirtual A B|callface A B|return|giveint|giveref|throw|is A|cast A|enter|leave|wait|notify|` +
	`notifyall|start|join|print|read|makeweak|deref|collect`

const operationWords = "add sub mul div rem neg and or xor shl shr ushr"

// extremes are numbers at the edges of what an int, a number of layer 1, and a list's place may be.
var extremes = []int{math.MinInt, math.MinInt + 1, math.MinInt32 - 1, math.MinInt32, -12, -10, -1, 0, 1, 2, 8, 9, 10, 11, 12,
	13, 23, 24, 46, 47, 99, 100, math.MaxInt32, math.MaxInt32 + 1, math.MaxInt - 1, math.MaxInt}

// Of each instruction its word, and how many operands it has.
var words, counts = rows()

func rows() (words []string, counts []int) {
	for _, one := range strings.Split(chapter, "|") {
		parts := strings.Split(one, " ")
		words, counts = append(words, parts[0]), append(counts, len(parts)-1)
	}
	return words, counts
}

func wantText(t *testing.T, i api.Ins, want string, wantCode api.Errno) {
	t.Helper()
	if s, e := code.Text(i); s != want || e != wantCode {
		t.Errorf("Text(%v) = %q, %d; want %q, %d", i, s, e, want, wantCode)
	}
}

func wantParsed(t *testing.T, s string, want api.Ins, wantCode api.Errno) {
	t.Helper()
	if i, e := code.Parse(s); i != want || e != wantCode {
		t.Errorf("Parse(%q) = %v, %d; want %v, %d", s, i, e, want, wantCode)
	}
}

// The numbers of the classes of program.
const (
	mainClass  = 11
	plainFace  = 12
	threadKind = 13
	emptyClass = 14
	emptyFace  = 15
	behindAll  = 16
)

// program has, in class 11, 2 fields, 3 statics, and methods Static, not, Static, not (of 3 locals the first); a Face of
// 2 methods; a ClassThread of 1 field, 1 method; a class and a Face that have nothing.
func program(instructions ...api.Ins) api.Program {
	field := func(name string) api.Field { return api.Field{Name: name, Type: api.TypeInt} }
	return api.Program{Main: mainClass, Classes: []api.Class{
		{Name: "Main", Faces: []int{plainFace}, Fields: []api.Field{field("a"), field("b")},
			Statics: []api.Field{field("a"), field("b"), field("c")},
			Methods: []api.Method{{Name: "main", Static: true, Locals: 3, Code: instructions}, {Name: "f", Locals: 1},
				{Name: "s", Static: true}, {Name: "g", Locals: 1}}},
		{Name: "Plain", Face: true, Methods: []api.Method{{Name: "f"}, {Name: "g"}}},
		{Name: "Worker", Super: api.ClassThread, Fields: []api.Field{field("a")}, Methods: []api.Method{{Name: "run", Locals: 1}}},
		{Name: "Empty", Super: mainClass},
		{Name: "None", Face: true},
	}}
}

func wantChecked(t *testing.T, p api.Program, class, method, place int, want api.Errno) {
	t.Helper()
	if at, e := code.Check(p, class, method); at != place || e != want {
		t.Errorf("Check(%+v, %d, %d) = %d, %d; want %d, %d", p, class, method, at, e, place, want)
	}
}

// wantInsChecked holds one instruction, at place 2 of the main method, against what it must come to.
func wantInsChecked(t *testing.T, i api.Ins, want api.Errno) {
	t.Helper()
	place := 2
	if want == api.OK {
		place = 0
	}
	wantChecked(t, program(api.Ins{}, api.Ins{}, i, api.Ins{}, api.Ins{Op: api.InsReturn}), mainClass, 0, place, want)
}

// wantOnly: of all extremes, as A of op beside that B, only some are right.
func wantOnly(t *testing.T, op, b int, right []int, wrong api.Errno) {
	t.Helper()
	for _, a := range append(slices.Clone(extremes), 3, 4, 5, 6, 7, 14, 15, 16, 17) {
		if slices.Contains(right, a) {
			wantInsChecked(t, api.Ins{Op: op, A: a, B: b}, api.OK)
		} else {
			wantInsChecked(t, api.Ins{Op: op, A: a, B: b}, wrong)
		}
	}
}

// wantPairs: of all pairs of extremes, as A and B of op, only some are right.
func wantPairs(t *testing.T, op int, right ...[2]int) {
	t.Helper()
	for _, a := range append(slices.Clone(extremes), 3, 4, 5, 6, 7, 14, 15, 16, 17) {
		for _, b := range append(slices.Clone(extremes), 3, 4) {
			if slices.Contains(right, [2]int{a, b}) {
				wantInsChecked(t, api.Ins{Op: op, A: a, B: b}, api.OK)
			} else {
				wantInsChecked(t, api.Ins{Op: op, A: a, B: b}, api.ErrCodeArgs)
			}
		}
	}
}

// numbers is from up to (not with) to.
func numbers(from, to int) []int {
	var all []int
	for x := from; x < to; x++ {
		all = append(all, x)
	}
	return all
}

// random is a fixed row of numbers.
type random uint64

func (r *random) next(n int) int {
	*r = *r*6364136223846793005 + 1442695040888963407
	return int(uint64(*r) >> 33 % uint64(n))
}

func (r *random) once(n int) bool {
	return r.next(n) == 0
}

func pick[T any](r *random, items ...T) T {
	return items[r.next(len(items))]
}
