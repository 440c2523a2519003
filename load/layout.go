package load

import (
	"maps"
	"slices"
	"strings"

	"gneiss/api"
)

// layouts makes each super's layout ahead of those below it, since these go on from it, whatever their numbers.
func (t tree) layouts() []api.Layout {
	ls := make([]api.Layout, len(t))
	for c := range t {
		for _, one := range slices.Backward(slices.Collect(t.line(c))) {
			// Whatever has its layout is itself among what it is.
			if len(ls[one].Above) == 0 {
				ls[one] = t.layout(one, ls[t[one].Super])
			}
		}
	}
	return ls
}

// layout is that of c, whose super's is given (none of ClassObject's).
func (t tree) layout(c int, super api.Layout) api.Layout {
	offset := len(super.Fields)
	if t[c].Face {
		offset = -1
	}
	return api.Layout{
		Fields:  fieldsOf(super.Fields, t[c].Fields),
		Offset:  offset,
		Virtual: t.virtual(c, super.Virtual),
		Above:   t.above(c),
	}
}

func fieldsOf(super []api.Field, own []api.Field) []api.Field {
	all := slices.Clone(super)
	for _, f := range own {
		all = append(all, api.Field{Name: strings.Clone(f.Name), Type: f.Type})
	}
	return all
}

// virtual leaves Static methods out: one is run without a receiver, so it can't stand in for a super's virtual one.
func (t tree) virtual(c int, super []api.Entry) []api.Entry {
	all := slices.Clone(super)
	for i := range all {
		all[i].Args = slices.Clone(all[i].Args)
	}
	for number, m := range t[c].Methods {
		if m.Static {
			continue
		}
		own := api.Entry{
			Name: strings.Clone(m.Name), Args: slices.Clone(m.Args), Ret: m.Ret, Class: c, Method: number,
		}
		if at := placeOf(super, ofMethod(m)); at >= 0 {
			all[at] = own
		} else {
			all = append(all, own)
		}
	}
	return all
}

// above is the numbers of all that c is.
func (t tree) above(c int) []int {
	is := map[int]struct{}{}
	var faces []int
	for one := range t.line(c) {
		is[one] = struct{}{}
		faces = append(faces, t[one].Faces...)
	}
	for len(faces) > 0 {
		face := faces[len(faces)-1]
		faces = faces[:len(faces)-1]
		// Faces may lead back to one another, so each is gone into once.
		if _, met := is[face]; !met {
			is[face] = struct{}{}
			faces = append(faces, t[face].Faces...)
		}
	}
	return slices.Sorted(maps.Keys(is))
}
