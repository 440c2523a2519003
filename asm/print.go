package asm

import (
	"slices"
	"strings"

	"gneiss/api"
	"gneiss/code"
	"gneiss/fault"
)

// A printer writes the lines of a program one behind the other, and throws the first fault.
type printer struct {
	shapes []shape
	text   strings.Builder
}

// printed is the text of a program that can be bytes.
func printed(p api.Program) string {
	w := &printer{shapes: shapes()}
	w.program(p)
	// An instruction that can't be written comes first, wherever it stands, so the length can be asked only now.
	if w.text.Len() > api.MaxText {
		fault.Throw(0, api.ErrAsmLong)
	}
	return w.text.String()
}

func (w *printer) line(text string) {
	w.text.WriteString(text)
	w.text.WriteByte('\n')
}

func (w *printer) put(kind int, e entry) {
	at := slices.IndexFunc(w.shapes, func(s shape) bool { return s.kind == kind })
	w.line(together(e, w.shapes[at]))
}

func (w *printer) program(p api.Program) {
	w.put(mainLine, entry{numbers: []int{p.Main}})
	for _, c := range p.Classes {
		w.class(c)
	}
	w.put(endLine, entry{})
}

func (w *printer) class(c api.Class) {
	flags := flagIf(c.Face, faceFlag) | flagIf(c.Final, finalFlag)
	w.put(classLine, entry{name: c.Name, numbers: []int{c.Super, flags}, list: c.Faces})
	for _, f := range c.Fields {
		w.field(fieldLine, f)
	}
	for _, f := range c.Statics {
		w.field(staticLine, f)
	}
	for _, m := range c.Methods {
		w.method(m)
	}
}

func (w *printer) field(kind int, f api.Field) {
	w.put(kind, entry{name: f.Name, numbers: []int{f.Type}})
}

func (w *printer) method(m api.Method) {
	flags := flagIf(m.Static, staticFlag)
	w.put(methodLine, entry{name: m.Name, numbers: []int{flags, m.Ret, m.Locals, m.Stack}, list: m.Args})
	for _, i := range m.Code {
		w.ins(i)
	}
	for _, h := range m.Table {
		w.put(handlerLine, entry{numbers: []int{h.From, h.To, h.At, h.Class}})
	}
	for _, x := range m.Maps {
		w.put(mapLine, entry{numbers: []int{x.At, len(x.Locals)}, counted: x.Locals, list: x.Stack})
	}
}

func (w *printer) ins(i api.Ins) {
	text, found := code.Text(i)
	// An operand that an instruction has not does not stand in its text, so it is not read back.
	if back, _ := code.Parse(text); found != api.OK || back != i {
		fault.Throw(0, api.ErrAsmForm)
	}
	w.line(text)
}
