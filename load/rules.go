package load

import (
	"slices"
	"strings"

	"gneiss/api"
	"gneiss/fault"
)

// layoutsOf goes rule by rule, since a fault of a rule that is named first comes first, whichever class bears it. Layouts
// are made behind the rules by which all supers lead up to ClassObject and all Faces are there.
func layoutsOf(p api.Program) []api.Layout {
	t := treeOf(p)
	t.check(api.ErrLoadSuper, t.hasWrongSuper)
	t.check(api.ErrLoadCycle, t.isAboveItself)
	t.check(api.ErrLoadFace, t.hasWrongFace)
	t.check(api.ErrLoadSign, t.hasWrongSign)
	t.check(api.ErrLoadTwice, t.hasOneTwice)
	ls := t.layouts()
	t.check(api.ErrLoadMissing, func(c int) bool { return t.lacksOfFace(ls, c) })
	t.check(api.ErrLoadFinal, func(c int) bool { return t.lacksFinalize(ls, c) })
	if !t.canBeMain(p.Main) {
		fault.Throw(p.Main, api.ErrLoadMain)
	}
	return ls
}

// check throws the fault of the first of the program's classes that breaks a rule.
func (t tree) check(code api.Errno, breaks func(c int) bool) {
	for c := api.FirstClass; c < len(t); c++ {
		if breaks(c) {
			fault.Throw(c, code)
		}
	}
}

func (t tree) hasWrongSuper(c int) bool {
	super := t[c].Super
	if t[c].Face {
		return super != api.ClassObject
	}
	return !isPlace(t, super) || t[super].Face || super == api.ClassWeak
}

func (t tree) isAboveItself(c int) bool {
	for super := range t.line(t[c].Super) {
		if super == c {
			return true
		}
	}
	return false
}

func (t tree) hasWrongFace(c int) bool {
	isNone := func(face int) bool { return !isPlace(t, face) || !t[face].Face }
	return slices.ContainsFunc(t[c].Faces, isNone) || t[c].Face && !isPlainFace(t[c])
}

// isPlainFace tells whether a Face has nothing that only what is no Face may have.
func isPlainFace(face api.Class) bool {
	return !face.Final && len(face.Fields) == 0 && len(face.Statics) == 0 &&
		!slices.ContainsFunc(face.Methods, func(m api.Method) bool {
			return m.Static || len(m.Code) > 0 || len(m.Table) > 0 || len(m.Maps) > 0
		})
}

func (t tree) isType(x int) bool {
	switch x {
	case api.TypeInt, api.TypeInts, api.TypeRefs:
		return true
	}
	return x >= api.TypeClass && isPlace(t, x-api.TypeClass)
}

func (t tree) hasWrongSign(c int) bool {
	isWrong := func(f api.Field) bool { return !t.isType(f.Type) }
	return slices.ContainsFunc(t[c].Fields, isWrong) || slices.ContainsFunc(t[c].Statics, isWrong) ||
		slices.ContainsFunc(t[c].Methods, func(m api.Method) bool {
			return t.hasWrongSignature(m) || !t[c].Face && hasFewLocals(m)
		})
}

func (t tree) hasWrongSignature(m api.Method) bool {
	isWrong := func(arg int) bool { return !t.isType(arg) }
	return slices.ContainsFunc(m.Args, isWrong) || m.Ret != api.TypeNone && !t.isType(m.Ret)
}

// hasFewLocals tells whether there is no local for each of what a call brings: receiver and Args.
func hasFewLocals(m api.Method) bool {
	brought := len(m.Args)
	if !m.Static {
		brought++
	}
	return brought > m.Locals
}

func (t tree) hasOneTwice(c int) bool {
	byName := func(f, g api.Field) int { return strings.Compare(f.Name, g.Name) }
	bySignature := func(m, n api.Method) int { return ofMethod(m).compare(ofMethod(n)) }
	return hasEqual(t[c].Fields, byName) || hasEqual(t[c].Statics, byName) || hasEqual(t[c].Methods, bySignature)
}

func hasEqual[T any](items []T, compare func(T, T) int) bool {
	sorted := slices.SortedFunc(slices.Values(items), compare)
	for i := 1; i < len(sorted); i++ {
		if compare(sorted[i-1], sorted[i]) == 0 {
			return true
		}
	}
	return false
}

// lacksOfFace tells whether a method of a Face that c is can't be called on it.
func (t tree) lacksOfFace(ls []api.Layout, c int) bool {
	if t[c].Face {
		return false
	}
	isLacking := func(e api.Entry) bool { return placeOf(ls[c].Virtual, ofEntry(e)) < 0 }
	return slices.ContainsFunc(ls[c].Above, func(one int) bool {
		return t[one].Face && slices.ContainsFunc(ls[one].Virtual, isLacking)
	})
}

func (t tree) lacksFinalize(ls []api.Layout, c int) bool {
	return t[c].Final && placeOf(ls[c].Virtual, signature{name: "finalize", ret: api.TypeNone}) < 0
}

func (t tree) canBeMain(c int) bool {
	if c < api.FirstClass || !isPlace(t, c) || t[c].Face || len(t[c].Methods) == 0 {
		return false
	}
	first := t[c].Methods[0]
	return first.Static && len(first.Args) == 0 && first.Ret == api.TypeNone
}
