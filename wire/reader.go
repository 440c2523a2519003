package wire

import (
	"strings"

	"gneiss/api"
)

// A reader takes a T off s from place at on, which lies within s or at its end, and tells the place behind it.
type reader[T any] func(s string, at int) (T, int, api.Errno)

// read keeps places outside s from the reader.
func (take reader[T]) read(s string, at int) (T, int, api.Errno) {
	if at < 0 || at > len(s) {
		var none T
		return none, 0, api.ErrWireCut
	}
	return take(s, at)
}

func takeNum(s string, at int) (int, int, api.Errno) {
	word := uint32(0)
	for i := 0; at+i < len(s); i++ {
		part := s[at+i]
		if misfits(part, i) {
			return 0, 0, api.ErrWireForm
		}
		word |= uint32(part&^more) << (i * partBits)
		if part < more {
			return int(unfold(word)), at + i + 1, api.OK
		}
	}
	return 0, 0, api.ErrWireCut
}

func textOf(most int) reader[string] {
	return func(s string, at int) (string, int, api.Errno) {
		size, from, code := takeNum(s, at)
		switch {
		case code != api.OK:
			return "", 0, code
		case size < 0 || size > most:
			return "", 0, api.ErrWireText
		case size > len(s)-from:
			return "", 0, api.ErrWireCut
		}
		// A piece of s would share its memory and keep all of it alive.
		return strings.Clone(s[from : from+size]), from + size, api.OK
	}
}
