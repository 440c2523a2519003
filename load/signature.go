package load

import (
	"cmp"
	"slices"
	"strings"

	"gneiss/api"
)

// A signature is what methods are told apart by.
type signature struct {
	name string
	args []int
	ret  int
}

func ofMethod(m api.Method) signature {
	return signature{m.Name, m.Args, m.Ret}
}

func ofEntry(e api.Entry) signature {
	return signature{e.Name, e.Args, e.Ret}
}

func (s signature) compare(other signature) int {
	switch {
	case s.name != other.name:
		return strings.Compare(s.name, other.name)
	case s.ret != other.ret:
		return cmp.Compare(s.ret, other.ret)
	}
	return slices.Compare(s.args, other.args)
}

// placeOf is where the entry with that signature stands; -1 if there is none.
func placeOf(virtual []api.Entry, wanted signature) int {
	return slices.IndexFunc(virtual, func(e api.Entry) bool { return ofEntry(e).compare(wanted) == 0 })
}
