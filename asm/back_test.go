package asm_test

import (
	"reflect"
	"slices"
	"strconv"
	"strings"
	"testing"

	"gneiss/api"
	"gneiss/asm"
	"gneiss/code"
)

// plainText does the chapter's words of how a program is written one by one.
func plainText(p api.Program) string {
	var out []string
	line := func(word, name string, numbers ...int) {
		words := []string{word}
		if name != "" {
			words = append(words, name)
		}
		for _, x := range numbers {
			words = append(words, strconv.Itoa(x))
		}
		out = append(out, strings.Join(words, " "))
	}
	flag := func(is bool, x int) int {
		if is {
			return x
		}
		return 0
	}
	line("main", "", p.Main)
	for _, c := range p.Classes {
		line("class", c.Name, append([]int{c.Super, flag(c.Face, 1) + flag(c.Final, 2)}, c.Faces...)...)
		for _, f := range c.Fields {
			line("field", f.Name, f.Type)
		}
		for _, f := range c.Statics {
			line("static", f.Name, f.Type)
		}
		for _, m := range c.Methods {
			line("method", m.Name, append([]int{flag(m.Static, 1), m.Ret, m.Locals, m.Stack}, m.Args...)...)
			for _, i := range m.Code {
				text, _ := code.Text(i)
				out = append(out, text)
			}
			for _, h := range m.Table {
				line("handler", "", h.From, h.To, h.At, h.Class)
			}
			for _, x := range m.Maps {
				line("map", "", slices.Concat([]int{x.At, len(x.Locals)}, x.Locals, x.Stack)...)
			}
		}
	}
	return strings.Join(append(out, "end"), "\n") + "\n"
}

func (r *random) name() string {
	return pick(r, "a", "_", "Ab9", "abcdefghijklmnop", "end", "map", "x"+strconv.Itoa(r.next(100)))
}

func (r *random) number() int {
	return pick(r, 0, 1, -1, r.next(40), r.next(100000), -2147483648, 2147483647)
}

func (r *random) numbers(most int) []int {
	var all []int
	for range r.next(most + 1) {
		all = append(all, r.number())
	}
	return all
}

func (r *random) fields() []api.Field {
	var all []api.Field
	for range r.next(4) {
		all = append(all, api.Field{Name: r.name(), Type: r.number()})
	}
	return all
}

func (r *random) method() api.Method {
	m := api.Method{Name: r.name(), Static: r.once(2), Args: r.numbers(8), Ret: r.number(), Locals: r.next(25), Stack: r.next(25)}
	for range r.next(8) {
		i := api.Ins{Op: r.next(47), A: r.number(), B: r.number()}
		if i.Op == api.InsArith {
			i.A = r.next(12)
		}
		text, _ := code.Text(i)
		i, _ = code.Parse(text)
		m.Code = append(m.Code, i)
	}
	for range r.next(3) {
		m.Table = append(m.Table, api.Handler{From: r.number(), To: r.number(), At: r.number(), Class: r.number()})
	}
	for range r.next(3) {
		m.Maps = append(m.Maps, api.Map{At: r.number(), Locals: r.numbers(pick(r, 3, 24)), Stack: r.numbers(pick(r, 3, 24))})
	}
	return m
}

func (r *random) program() api.Program {
	p := api.Program{Main: r.number()}
	for range r.next(4) {
		c := api.Class{Name: r.name(), Face: r.once(2), Final: r.once(2), Super: r.number(), Faces: r.numbers(8), Fields: r.fields(),
			Statics: r.fields()}
		for range r.next(4) {
			c.Methods = append(c.Methods, r.method())
		}
		p.Classes = append(p.Classes, c)
	}
	return p
}

func TestP19_2WhatIsWrittenIsRead(t *testing.T) {
	if text := plainText(smallProgram()); text != small {
		t.Fatal(text)
	}
	r := random(19)
	for range 2000 {
		p := r.program()
		text := plainText(p)
		wantParsed(t, text, p)
		wantParsed(t, strings.TrimSuffix(text, "\n"), p)
	}
}

// spoiltText is a program's text that was changed in one or two places.
func (r *random) spoiltText() string {
	const odd = "0 1\n-a_9\r\x00+"
	text := []byte(plainText(r.program()))
	for range 1 + r.next(2) {
		at := r.next(len(text))
		switch r.next(4) {
		case 0:
			text[at] = odd[r.next(len(odd))]
		case 1:
			text = slices.Insert(text, at, odd[r.next(len(odd))])
		case 2:
			text = slices.Delete(text, at, at+1)
		default:
			all := strings.SplitAfter(string(text), "\n")
			i, j := r.next(len(all)), r.next(len(all))
			all[i], all[j] = all[j], all[i]
			text = []byte(strings.Join(all, ""))
		}
		if len(text) == 0 {
			text = []byte("x")
		}
	}
	return string(text)
}

// TestP19_2WhatIsReadIsWrittenSo: a text that is taken is the one that its program has.
func TestP19_2WhatIsReadIsWrittenSo(t *testing.T) {
	r := random(191)
	seen := map[api.Errno]int{}
	for range 20000 {
		text := r.spoiltText()
		p, line, e := asm.Parse(text)
		seen[e]++
		switch {
		case e != api.OK && (!reflect.DeepEqual(p, api.Program{}) || line < 1 || line > strings.Count(text, "\n")+2):
			t.Fatalf("%q: %v, %d, %d", text, p, line, e)
		case e == api.OK && (line != 0 || plainText(p) != strings.TrimSuffix(text, "\n")+"\n"):
			t.Fatalf("%q was read as %q", text, plainText(p))
		}
	}
	for _, e := range []api.Errno{api.OK, api.ErrAsmWord, api.ErrAsmName, api.ErrAsmForm} {
		if seen[e] < 100 {
			t.Errorf("only %d texts with error %d", seen[e], e)
		}
	}
}

func TestR1AnyText(t *testing.T) {
	r := random(1)
	for range 20000 {
		text := ""
		for range r.next(30) {
			text += pick(&r, "main", "class", "field", "static", "method", "handler", "map", "end", "int", "nop", "arith", "add", " ", " ",
				"\n", "\n", "0", "1", "11", "-", "a", "\x00", "\xff", "é")
		}
		p, line, e := asm.Parse(text)
		if e == api.OK && plainText(p) != strings.TrimSuffix(text, "\n")+"\n" || e != api.OK && line == 0 {
			t.Fatalf("%q: %v, %d, %d", text, p, line, e)
		}
	}
}

func TestR4ListsShareNothing(t *testing.T) {
	text := []byte(small)
	p, _, _ := asm.Parse(string(text))
	q, _, _ := asm.Parse(string(text))
	p.Classes[0].Methods[0].Maps[1].Locals = append(p.Classes[0].Methods[0].Maps[1].Locals, 99)
	p.Classes[0].Methods[0].Maps[1].Locals[0] = 99
	p.Classes[2].Faces[0] = 99
	if !reflect.DeepEqual(p.Classes[0].Methods[0].Maps[1].Stack, []int{27, 3}) || !reflect.DeepEqual(tidy(q), tidy(smallProgram())) {
		t.Errorf("%v, %v", p, q)
	}
}
