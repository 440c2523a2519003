package asm

import (
	"slices"
	"strings"

	"gneiss/api"
	"gneiss/class"
	"gneiss/fault"
)

// A parser goes through a text line by line, and throws the first fault.
type parser struct {
	lines  feed[string]
	shapes []shape
}

func parse(s string) api.Program {
	if len(s) > api.MaxText {
		fault.Throw(0, api.ErrAsmLong)
	}
	r := &parser{feed[string]{items: linesOf(s)}, shapes()}
	p := r.program()
	// Of what is within all other limits nothing but its length can be in the way of its bytes.
	if _, found := class.Encode(p); found != api.OK {
		fault.Throw(0, api.ErrAsmLong)
	}
	return p
}

func linesOf(s string) []string {
	lines := strings.Split(s, "\n")
	if last := len(lines) - 1; lines[last] == "" {
		return lines[:last]
	}
	return lines
}

// next is the next line, if there is one and it is of that kind.
func (r *parser) next(kind int) (entry, bool) {
	var found shape
	text, has := r.lines.next(func(line string) bool {
		at := slices.IndexFunc(r.shapes, func(s shape) bool { return s.word == firstWord(line) })
		if at < 0 || r.shapes[at].kind != kind {
			return false
		}
		found = r.shapes[at]
		return true
	})
	switch {
	case !has:
		return entry{}, false
	case kind == insLine && found.op == api.InsArith:
		return arith(r.lines.at, text), true
	}
	return apart(r.lines.at, text, found), true
}

// must is the next line, which must be of that kind; where there is none, the line behind the last one bears the fault.
func (r *parser) must(kind int) entry {
	e, has := r.next(kind)
	if !has {
		fault.Throw(r.lines.at+1, api.ErrAsmWord)
	}
	return e
}

// all is what lines of that kind begin, as many as there are.
func all[T any](r *parser, kind int, most int, read func(r *parser, begin entry) T) []T {
	var items []T
	for {
		begin, has := r.next(kind)
		if !has {
			return items
		}
		if len(items) == most {
			begin.throw(api.ErrAsmForm)
		}
		items = append(items, read(r, begin))
	}
}

func (r *parser) program() api.Program {
	var p api.Program
	p.Main = r.must(mainLine).numbers[0]
	p.Classes = all(r, classLine, api.MaxClasses, (*parser).class)
	r.must(endLine)
	if !r.lines.isOver() {
		fault.Throw(r.lines.at+1, api.ErrAsmWord)
	}
	return p
}

// Each part is read by a statement of its own, so that the row of the statements is the row of the lines.

func (r *parser) class(begin entry) api.Class {
	c := api.Class{Name: begin.name, Super: begin.numbers[0], Faces: begin.list}
	c.Face = begin.numbers[1]&faceFlag != 0
	c.Final = begin.numbers[1]&finalFlag != 0
	c.Fields = all(r, fieldLine, api.MaxFields, (*parser).field)
	c.Statics = all(r, staticLine, api.MaxFields, (*parser).field)
	c.Methods = all(r, methodLine, api.MaxMethods, (*parser).method)
	return c
}

func (r *parser) field(begin entry) api.Field {
	return api.Field{Name: begin.name, Type: begin.numbers[0]}
}

func (r *parser) method(begin entry) api.Method {
	m := api.Method{Name: begin.name, Args: begin.list}
	m.Static = begin.numbers[0]&staticFlag != 0
	m.Ret, m.Locals, m.Stack = begin.numbers[1], begin.numbers[2], begin.numbers[3]
	m.Code = all(r, insLine, api.MaxCode, (*parser).ins)
	m.Table = all(r, handlerLine, api.MaxTable, (*parser).handler)
	m.Maps = all(r, mapLine, api.MaxMaps, (*parser).stackMap)
	return m
}

func (r *parser) ins(begin entry) api.Ins {
	i := api.Ins{Op: begin.op}
	if len(begin.numbers) > 0 {
		i.A = begin.numbers[0]
	}
	if len(begin.numbers) > 1 {
		i.B = begin.numbers[1]
	}
	return i
}

func (r *parser) handler(begin entry) api.Handler {
	of := begin.numbers
	return api.Handler{From: of[0], To: of[1], At: of[2], Class: of[3]}
}

func (r *parser) stackMap(begin entry) api.Map {
	return api.Map{At: begin.numbers[0], Locals: begin.counted, Stack: begin.list}
}
