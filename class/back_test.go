package class_test

import (
	"testing"

	"gneiss/api"
	"gneiss/class"
)

func wantBack(t *testing.T, p api.Program) {
	t.Helper()
	s, code := class.Encode(p)
	if code != api.OK {
		t.Fatalf("Encode(%v): %d", p, code)
	}
	wantProgram(t, s, p)
	q, _, _ := class.Decode(s)
	wantBytes(t, q, s)
}

func TestP14_3ThereAndBack(t *testing.T) {
	for _, p := range []api.Program{{}, {Main: least}, {Main: most}, full(), roomy(), long(t, api.MaxBytes)} {
		wantBack(t, p)
	}
	r := row(7)
	for range 3000 {
		wantBack(t, r.program())
	}
}

func TestP14_3EachPartIsToldApart(t *testing.T) {
	p := full()
	whole, _ := class.Encode(p)
	seen := map[string]int{whole: 1}
	for _, place := range append(numbersOf(&p), sizesOf(&p)...) {
		was := *place
		*place = (was + 1) % 24
		wantBack(t, p)
		s, _ := class.Encode(p)
		seen[s]++
		*place = was
	}
	for _, place := range namesOf(&p) {
		was := *place
		*place = "other"
		wantBack(t, p)
		s, _ := class.Encode(p)
		seen[s]++
		*place = was
	}
	for i := range p.Classes {
		c := &p.Classes[i]
		for _, place := range []*bool{&c.Face, &c.Final} {
			*place = !*place
			wantBack(t, p)
			s, _ := class.Encode(p)
			seen[s]++
			*place = !*place
		}
	}
	for s, times := range seen {
		if times > 1 {
			t.Errorf("%d programs have the bytes %q", times, s)
		}
	}
	wantBytes(t, p, whole)
}

func TestP14_3EmptyListsAndNilAreOne(t *testing.T) {
	p := api.Program{Classes: []api.Class{{
		Name: "A", Faces: []int{}, Fields: []api.Field{}, Statics: []api.Field{}, Methods: []api.Method{{
			Name: "m", Args: []int{}, Code: []api.Ins{}, Table: []api.Handler{},
			Maps: []api.Map{{Locals: []int{}, Stack: []int{}}},
		}},
	}}}
	q := api.Program{Classes: []api.Class{{Name: "A", Methods: []api.Method{{Name: "m", Maps: []api.Map{{}}}}}}}
	s, _ := class.Encode(p)
	wantBytes(t, q, s)
	wantBack(t, p)
}
