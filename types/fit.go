package types

import (
	"gneiss/api"
	"gneiss/load"
)

// A fit tells whether what there is may stand where something is asked for.
type fit[T any] func(have, want T) bool

// all holds two lists against each other, place by place.
func all[T any](have, want []T, fits fit[T]) bool {
	if len(have) != len(want) {
		return false
	}
	for place := range have {
		if !fits(have[place], want[place]) {
			return false
		}
	}
	return true
}

// fitsClass tells whether have, a Ref that is not TypeNull, fits class c. Arrays are ClassObject besides; what is asked to
// be a Face is asked for it once more when it is called (callface), so that any object or array fits one.
func fitsClass(ls []api.Layout, have int, c int) bool {
	if c < 0 || c >= len(ls) {
		return false
	}
	return c == api.ClassObject || ls[c].Offset == -1 || load.Is(ls, have-api.TypeClass, c)
}
