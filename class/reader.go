package class

import (
	"strings"

	"gneiss/api"
	"gneiss/fault"
	"gneiss/wire"
)

// A reader goes through the bytes of a program from at on, and throws the first fault.
type reader struct {
	s  string
	at int
}

// An item is how one T of a list is read.
type item[T any] func(r *reader) T

func decode(s string) api.Program {
	switch {
	case len(s) > api.MaxBytes:
		fault.Throw(0, api.ErrClassLong)
	case !strings.HasPrefix(s, magic):
		fault.Throw(0, api.ErrClassMagic)
	}
	r := &reader{s, len(magic)}
	p := r.program()
	if r.at < len(s) {
		fault.Throw(r.at, api.ErrClassTail)
	}
	return p
}

// ofWire is this layer's error for one of layer 2.
func ofWire(code api.Errno) api.Errno {
	switch code {
	case api.ErrWireCut:
		return api.ErrClassCut
	case api.ErrWireText:
		return api.ErrClassName
	}
	return api.ErrClassForm
}

func (r *reader) num() int {
	x, behind, code := wire.GetNum(r.s, r.at)
	if code != api.OK {
		fault.Throw(r.at, ofWire(code))
	}
	r.at = behind
	return x
}

// upTo is a number from 0 to most; above is the error of a greater one.
func (r *reader) upTo(most int, above api.Errno) int {
	at := r.at
	x := r.num()
	switch {
	case x < 0:
		fault.Throw(at, api.ErrClassForm)
	case x > most:
		fault.Throw(at, above)
	}
	return x
}

func (r *reader) name() string {
	text, behind, code := wire.GetText(r.s, r.at, api.MaxName)
	switch {
	case code != api.OK:
		fault.Throw(r.at, ofWire(code))
	case !IsName(text):
		fault.Throw(r.at, api.ErrClassName)
	}
	r.at = behind
	return text
}

// list reads how many there are, then these.
func list[T any](r *reader, most int, read item[T]) []T {
	var items []T
	for range r.upTo(most, api.ErrClassMany) {
		items = append(items, read(r))
	}
	return items
}
