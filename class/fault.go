package class

import (
	"gneiss/api"
)

// A fault is thrown where it is found, however deep in a program's lists that is.
type fault struct {
	at   int
	code api.Errno
}

// caught is what do answers, or the fault that it throws.
func caught[T any](do func() T) (answer T, thrown fault) {
	defer func() {
		if found, is := recover().(fault); is {
			thrown = found
		}
	}()
	return do(), fault{}
}
