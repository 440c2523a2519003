package mark

import (
	"slices"
	"testing"
)

func TestRingGoesRound(t *testing.T) {
	for room := 1; room <= 5; room++ {
		r, next := ringOf[string](room), 'a'
		for round := range 4 * room {
			count := round%room + 1
			var want []string
			for range count {
				want = append(want, string(next))
				r.add(string(next))
				next++
			}
			if got := slices.Collect(r.taken()); !slices.Equal(got, want) {
				t.Fatalf("room %d, round %d: %q; want %q", room, round, got, want)
			}
			if item, has := r.take(); item != "" || has {
				t.Fatalf("room %d, round %d: %q, %v behind the last", room, round, item, has)
			}
		}
	}
}

func TestRingKeepsWhatARangeDidNotComeTo(t *testing.T) {
	r := ringOf[int](4)
	for i := range 4 {
		r.add(10 + i)
	}
	for item := range r.taken() {
		if item == 11 {
			break
		}
	}
	r.add(14)
	r.add(15)
	if item, has := r.take(); item != 12 || !has {
		t.Fatalf("%d, %v; want 12, true", item, has)
	}
	if got := slices.Collect(r.taken()); !slices.Equal(got, []int{13, 14, 15}) {
		t.Fatalf("%v; want [13 14 15]", got)
	}
}

func TestPlacesOf(t *testing.T) {
	row := []string{"b", "a", "b", "b", "a"}
	for item, want := range map[string][]int{"a": {1, 4}, "b": {0, 2, 3}, "c": nil} {
		if got := slices.Collect(placesOf(row, item)); !slices.Equal(got, want) {
			t.Errorf("%q: %v; want %v", item, got, want)
		}
	}
	for place := range placesOf(row, "b") {
		if place != 0 {
			t.Fatalf("%d behind the range's end", place)
		}
		break
	}
}
