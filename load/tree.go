package load

import (
	"iter"

	"gneiss/api"
)

// A tree is all classes by number: the built-in ones, then a program's.
type tree []api.Class

func treeOf(p api.Program) tree {
	return append(builtIn(), p.Classes...)
}

// builtIn is the classes that every program has. ClassObject, which has no super, is its own.
func builtIn() tree {
	t := make(tree, api.FirstClass)
	for c := api.ClassNullFault; c <= api.ClassMemoryFault; c++ {
		t[c].Super = api.ClassThrowable
	}
	t[api.ClassThread].Methods = []api.Method{{Name: "run", Ret: api.TypeNone}}
	return t
}

// up is from, what is above it, what is above that, and so on; no more than most, since that may lead back.
func up[T any](from T, above func(T) (T, bool), most int) iter.Seq[T] {
	return func(yield func(T) bool) {
		one, has := from, true
		for range most {
			if !has || !yield(one) {
				return
			}
			one, has = above(one)
		}
	}
}

// line is c, its super, and so on up to ClassObject.
func (t tree) line(c int) iter.Seq[int] {
	return up(c, func(c int) (int, bool) { return t[c].Super, c != api.ClassObject }, len(t))
}
