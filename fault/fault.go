// Package fault: faults that are thrown where they are found, however deep in a program that is, and caught at the face
// of a layer.
package fault

import (
	"gneiss/api"
)

// thrown is a fault: its error, and where it is.
type thrown struct {
	at   int
	code api.Errno
}

// Throw throws a fault: what calls it goes no further.
func Throw(at int, code api.Errno) {
	panic(thrown{at, code})
}

// Caught is what do answers, or the fault that it throws.
func Caught[T any](do func() T) (answer T, at int, code api.Errno) {
	defer func() {
		if found, is := recover().(thrown); is {
			at, code = found.at, found.code
		}
	}()
	return do(), 0, api.OK
}

// Found is the fault that do throws, if it throws one.
func Found(do func()) (at int, code api.Errno) {
	_, at, code = Caught(func() struct{} {
		do()
		return struct{}{}
	})
	return at, code
}
