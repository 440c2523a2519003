package class_test

import (
	"encoding/binary"
	"reflect"
	"strings"
	"testing"

	"gneiss/api"
	"gneiss/class"
)

const (
	least = -1 << 31
	most  = 1<<31 - 1
)

// A kind is what a number or text in a program's bytes is.
type kind int

const (
	number kind = iota
	text
	count
	flags
	size
)

// A spot is where one of these stands, and the most that it may be.
type spot struct {
	at, behind int
	kind       kind
	most       int
}

// A speller writes a program's bytes by the chapter's words, and tells where each part of them stands.
type speller struct {
	bytes []byte
	spots []spot
}

func spell(p api.Program) (string, []spot) {
	w := &speller{bytes: []byte("GNSS")}
	w.num(number, p.Main, 0)
	w.num(count, len(p.Classes), 40)
	for _, c := range p.Classes {
		w.class(c)
	}
	return string(w.bytes), w.spots
}

func (w *speller) num(kind kind, x int, most int) {
	at := len(w.bytes)
	w.bytes = binary.AppendVarint(w.bytes, int64(x))
	w.spots = append(w.spots, spot{at, len(w.bytes), kind, most})
}

func (w *speller) text(s string) {
	at := len(w.bytes)
	w.bytes = append(binary.AppendVarint(w.bytes, int64(len(s))), s...)
	w.spots = append(w.spots, spot{at, len(w.bytes), text, 16})
}

func (w *speller) nums(xs ...int) {
	for _, x := range xs {
		w.num(number, x, 0)
	}
}

func (w *speller) list(xs []int, most int) {
	w.num(count, len(xs), most)
	w.nums(xs...)
}

func (w *speller) fields(fields []api.Field) {
	w.num(count, len(fields), 24)
	for _, f := range fields {
		w.text(f.Name)
		w.nums(f.Type)
	}
}

func (w *speller) class(c api.Class) {
	w.text(c.Name)
	w.num(flags, map[bool]int{true: 1}[c.Face]+map[bool]int{true: 2}[c.Final], 3)
	w.nums(c.Super)
	w.list(c.Faces, 8)
	w.fields(c.Fields)
	w.fields(c.Statics)
	w.num(count, len(c.Methods), 24)
	for _, m := range c.Methods {
		w.method(m)
	}
}

func (w *speller) method(m api.Method) {
	w.text(m.Name)
	w.num(flags, map[bool]int{true: 1}[m.Static], 1)
	w.list(m.Args, 8)
	w.nums(m.Ret)
	w.num(size, m.Locals, 24)
	w.num(size, m.Stack, 24)
	w.num(count, len(m.Code), 300)
	for _, i := range m.Code {
		w.nums(i.Op, i.A, i.B)
	}
	w.num(count, len(m.Table), 16)
	for _, h := range m.Table {
		w.nums(h.From, h.To, h.At, h.Class)
	}
	w.num(count, len(m.Maps), 64)
	for _, x := range m.Maps {
		w.nums(x.At)
		w.list(x.Locals, 24)
		w.list(x.Stack, 24)
	}
}

// put is x as a number of layer 2.
func put(x int) string {
	return string(binary.AppendVarint(nil, int64(x)))
}

func putText(s string) string {
	return put(len(s)) + s
}

// full is a program with all that there is, in which no two numbers or names are one where that can be.
func full() api.Program {
	first := api.Method{
		Name: "main", Static: true, Args: []int{101, -102}, Ret: 103, Locals: 24, Stack: 23,
		Code:  []api.Ins{{Op: 104, A: least, B: most}, {Op: -105, A: 106, B: -107}, {}},
		Table: []api.Handler{{From: 108, To: 109, At: 110, Class: 111}, {From: -112, To: -113, At: -114, Class: -115}},
		Maps: []api.Map{
			{At: 116, Locals: []int{117, 118, 119}, Stack: []int{120, 121}},
			{At: -122, Stack: []int{123}},
			{At: 124, Locals: []int{125}},
		},
	}
	second := api.Method{Name: "_", Ret: -126, Stack: 1, Maps: []api.Map{{}}}
	return api.Program{Main: 127, Classes: []api.Class{
		{
			Name: "Abcdefghijklmno9", Face: true, Super: -128, Faces: []int{129, 130, 131},
			Fields:  []api.Field{{Name: "x", Type: 132}, {Name: "X", Type: -133}},
			Statics: []api.Field{{Name: "_0", Type: 134}},
			Methods: []api.Method{first, second},
		},
		{Name: "z_Z", Final: true, Super: 135, Statics: []api.Field{{Name: "s", Type: least}, {Name: "t", Type: most}}},
		{Name: "both", Face: true, Final: true, Methods: []api.Method{{Name: "m0", Static: true, Locals: 1}}},
		{Name: "a"},
	}}
}

// numbersOf is p's numbers that may be any; sizesOf, namesOf likewise.
func numbersOf(p *api.Program) []*int {
	all := []*int{&p.Main}
	for i := range p.Classes {
		c := &p.Classes[i]
		all = append(all, &c.Super)
		all = append(all, pointers(c.Faces)...)
		for k := range c.Fields {
			all = append(all, &c.Fields[k].Type)
		}
		for k := range c.Statics {
			all = append(all, &c.Statics[k].Type)
		}
		for k := range c.Methods {
			all = append(all, numbersOfMethod(&c.Methods[k])...)
		}
	}
	return all
}

func numbersOfMethod(m *api.Method) []*int {
	all := append(pointers(m.Args), &m.Ret)
	for i := range m.Code {
		x := &m.Code[i]
		all = append(all, &x.Op, &x.A, &x.B)
	}
	for i := range m.Table {
		x := &m.Table[i]
		all = append(all, &x.From, &x.To, &x.At, &x.Class)
	}
	for i := range m.Maps {
		x := &m.Maps[i]
		all = append(all, &x.At)
		all = append(all, pointers(x.Locals)...)
		all = append(all, pointers(x.Stack)...)
	}
	return all
}

func pointers[T any](items []T) []*T {
	var all []*T
	for i := range items {
		all = append(all, &items[i])
	}
	return all
}

func sizesOf(p *api.Program) []*int {
	var all []*int
	for i := range p.Classes {
		for k := range p.Classes[i].Methods {
			m := &p.Classes[i].Methods[k]
			all = append(all, &m.Locals, &m.Stack)
		}
	}
	return all
}

func namesOf(p *api.Program) []*string {
	var all []*string
	for i := range p.Classes {
		c := &p.Classes[i]
		all = append(all, &c.Name)
		for k := range c.Fields {
			all = append(all, &c.Fields[k].Name)
		}
		for k := range c.Statics {
			all = append(all, &c.Statics[k].Name)
		}
		for k := range c.Methods {
			all = append(all, &c.Methods[k].Name)
		}
	}
	return all
}

// names are some that are names; noNames some that are none.
func names() []string {
	return []string{
		"a", "z", "A", "Z", "_", "__", "_9", "a0", "Z9", "azAZ_09", "abcdefghijklmnop", "_234567890123456", "m",
	}
}

func noNames() []string {
	all := []string{
		"", "0", "9", "0a", "9_", "abcdefghijklmnopq", strings.Repeat("a", 17), strings.Repeat("a", 40),
		strings.Repeat("_", 1000), "a b", " a", "a ", "a-", "-a", "a.b", "a\n", "a\x00", "\x00", "é", "aé", "\xff", "a\xff",
		"a\xe9", "ab$", "a@", "a[", "a`", "a{", "a/", "a:", "@", "[", "`", "{", "/", ":", "abcdefghijklmno-",
	}
	for c := range 256 {
		isLetter := c >= 'a' && c <= 'z' || c >= 'A' && c <= 'Z' || c == '_'
		if !isLetter {
			all = append(all, string([]byte{byte(c)}))
		}
		if !isLetter && (c < '0' || c > '9') {
			all = append(all, "x"+string([]byte{byte(c)}), "x"+string([]byte{byte(c)})+"x")
		}
	}
	return all
}

// same tells whether two programs are one; an empty list and nil are.
func same(p, q api.Program) bool {
	first, _ := spell(p)
	second, _ := spell(q)
	return first == second
}

func wantProgram(t *testing.T, s string, want api.Program) {
	t.Helper()
	p, at, code := class.Decode(s)
	if at != 0 || code != api.OK || !same(p, want) {
		t.Fatalf("Decode(%.60q) = %v, %d, %d; want %v, 0, OK", s, p, at, code, want)
	}
}

func wantFault(t *testing.T, s string, at int, code api.Errno) {
	t.Helper()
	p, gotAt, gotCode := class.Decode(s)
	if !reflect.ValueOf(p).IsZero() || gotAt != at || gotCode != code {
		t.Fatalf("Decode(%q) = %v, %d, %d; want none, %d, %d", s, p, gotAt, gotCode, at, code)
	}
}

func wantBytes(t *testing.T, p api.Program, want string) {
	t.Helper()
	if s, code := class.Encode(p); s != want || code != api.OK {
		t.Fatalf("Encode(%v) = %q, %d; want %q, OK", p, s, code, want)
	}
}

func wantRefused(t *testing.T, p api.Program, want api.Errno) {
	t.Helper()
	if s, code := class.Encode(p); s != "" || code != want {
		t.Fatalf("Encode(%v) = %.60q, %d; want none, %d", p, s, code, want)
	}
}

// row is a fixed row of numbers.
type row uint64

func (r *row) next(n int) int {
	*r = *r*6364136223846793005 + 1442695040888963407
	return int(uint64(*r) >> 33 % uint64(n))
}

func (r *row) number() int {
	x := int(int32(r.next(1<<31)<<1)) >> r.next(32)
	return x + r.next(2)
}

func (r *row) name() string {
	return names()[r.next(len(names()))]
}

// listOf is up to n items, mostly few.
func listOf[T any](r *row, n int, item func(*row) T) []T {
	var items []T
	for range r.next(min(n, 1<<r.next(5)) + 1) {
		items = append(items, item(r))
	}
	return items
}

func (r *row) program() api.Program {
	return api.Program{Main: r.number(), Classes: listOf(r, 6, (*row).class)}
}

func (r *row) class() api.Class {
	return api.Class{
		Name: r.name(), Face: r.next(2) == 1, Final: r.next(2) == 1, Super: r.number(),
		Faces: listOf(r, 8, (*row).number), Fields: listOf(r, 24, (*row).field), Statics: listOf(r, 24, (*row).field),
		Methods: listOf(r, 4, (*row).method),
	}
}

func (r *row) field() api.Field {
	return api.Field{Name: r.name(), Type: r.number()}
}

func (r *row) method() api.Method {
	return api.Method{
		Name: r.name(), Static: r.next(2) == 1, Args: listOf(r, 8, (*row).number), Ret: r.number(), Locals: r.next(25),
		Stack: r.next(25),
		Code: listOf(r, 16, func(r *row) api.Ins {
			return api.Ins{Op: r.number(), A: r.number(), B: r.number()}
		}),
		Table: listOf(r, 16, func(r *row) api.Handler {
			return api.Handler{From: r.number(), To: r.number(), At: r.number(), Class: r.number()}
		}),
		Maps: listOf(r, 5, func(r *row) api.Map {
			return api.Map{At: r.number(), Locals: listOf(r, 24, (*row).number), Stack: listOf(r, 24, (*row).number)}
		}),
	}
}
