package load

import (
	"slices"
	"testing"
)

func TestUpEndsAtTheTopOrAtTheCap(t *testing.T) {
	half := func(x int) (int, bool) { return x / 2, x > 1 }
	for _, c := range []struct {
		from, most int
		want       []int
	}{
		{9, 10, []int{9, 4, 2, 1}}, {9, 5, []int{9, 4, 2, 1}}, {9, 4, []int{9, 4, 2, 1}}, {9, 3, []int{9, 4, 2}},
		{9, 1, []int{9}}, {9, 0, nil}, {1, 10, []int{1}},
	} {
		line := up(c.from, half, c.most)
		for range 2 {
			if got := slices.Collect(line); !slices.Equal(got, c.want) {
				t.Errorf("up(%d, %d): %v; want %v", c.from, c.most, got, c.want)
			}
		}
	}
	next := map[string]string{"a": "b", "b": "c", "c": "b"}
	round := up("a", func(x string) (string, bool) { return next[x], true }, 6)
	if got := slices.Collect(round); !slices.Equal(got, []string{"a", "b", "c", "b", "c", "b"}) {
		t.Errorf("round: %v", got)
	}
}

func TestUpStopsWhenItIsLeft(t *testing.T) {
	asked := 0
	line := up(0, func(x int) (int, bool) {
		asked++
		return x + 1, true
	}, 100)
	for x := range line {
		if x == 3 {
			break
		}
	}
	if asked != 3 {
		t.Errorf("asked %d times", asked)
	}
}
