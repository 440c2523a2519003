package verify

import (
	"cmp"
	"slices"

	"gneiss/api"
	"gneiss/fault"
	"gneiss/load"
)

func (w *walk) checkMaps() {
	above := -1
	for _, m := range w.m.Maps {
		if m.At <= above || m.At >= len(w.m.Code) || !w.isState(m) {
			fault.Throw(m.At, api.ErrVerifyForm)
		}
		above = m.At
	}
}

func (w *walk) isState(m api.Map) bool {
	isNone := func(t int) bool { return !w.isType(t) }
	isNoLocal := func(t int) bool { return t != api.TypeNone && !w.isType(t) }
	return len(m.Locals) == w.m.Locals && len(m.Stack) <= w.m.Stack &&
		!slices.ContainsFunc(m.Locals, isNoLocal) && !slices.ContainsFunc(m.Stack, isNone)
}

// isType tells whether there may be a value of type t.
func (w *walk) isType(t int) bool {
	switch t {
	case api.TypeInt, api.TypeNull, api.TypeInts, api.TypeRefs:
		return true
	}
	return t >= api.TypeClass && t-api.TypeClass < api.FirstClass+len(w.p.Classes)
}

// checkTable comes behind checkMaps, since handlers' maps are looked up.
func (w *walk) checkTable() {
	for _, h := range w.m.Table {
		if !w.isHandler(h) {
			fault.Throw(h.From, api.ErrVerifyTable)
		}
	}
}

func (w *walk) isHandler(h api.Handler) bool {
	m, has := w.mapAt(h.At)
	return 0 <= h.From && h.From < h.To && h.To <= len(w.m.Code) && has &&
		load.Is(w.ls, h.Class, api.ClassThrowable) && slices.Equal(m.Stack, []int{ofClass(h.Class)})
}

// mapAt is the map at a place, if there is one; behind checkMaps, by which maps rise.
func (w *walk) mapAt(place int) (api.Map, bool) {
	byPlace := func(m api.Map, place int) int { return cmp.Compare(m.At, place) }
	i, has := slices.BinarySearchFunc(w.m.Maps, place, byPlace)
	if !has {
		return api.Map{}, false
	}
	return w.m.Maps[i], true
}
