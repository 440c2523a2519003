package queue_test

import (
	"slices"
	"testing"

	"gneiss/queue"
)

func wantItems[T comparable](t *testing.T, q *queue.Queue[T], want ...T) {
	t.Helper()
	if got := slices.Collect(q.All()); !slices.Equal(got, want) {
		t.Fatalf("%v; want %v", got, want)
	}
}

func TestFirstInFirstOut(t *testing.T) {
	var q queue.Queue[string]
	q.Drop()
	if item, has := q.First(); item != "" || has {
		t.Fatalf("%q, %v; want none", item, has)
	}
	q.Add("a", "b")
	q.Add()
	q.Add("c")
	wantItems(t, &q, "a", "b", "c")
	for _, want := range []string{"a", "b", "c"} {
		if item, has := q.First(); item != want || !has {
			t.Fatalf("%q, %v; want %q", item, has, want)
		}
		q.Drop()
		q.Add(want + want)
	}
	wantItems(t, &q, "aa", "bb", "cc")
}

func TestKeepsNothingThatIsHandedIn(t *testing.T) {
	var q queue.Queue[int]
	items := []int{1, 2, 3}
	q.Add(items...)
	items[0], items[2] = 7, 7
	q.Drop()
	q.Drop()
	wantItems(t, &q, 3)
	if items[1] != 2 {
		t.Fatalf("%v was changed", items)
	}
}

func TestTakesTheFirstOfThose(t *testing.T) {
	even := func(item int) bool { return item%2 == 0 }
	var q queue.Queue[int]
	if item, has := q.Take(even); item != 0 || has {
		t.Fatalf("%d, %v; want none", item, has)
	}
	q.Add(3, 8, 5, 6, 2)
	for _, want := range []int{8, 6, 2} {
		if item, has := q.Take(even); item != want || !has {
			t.Fatalf("%d, %v; want %d", item, has, want)
		}
	}
	if item, has := q.Take(even); item != 0 || has {
		t.Fatalf("%d, %v; want none", item, has)
	}
	wantItems(t, &q, 3, 5)
	q.Add(4, 6)
	q.Drop()
	q.Drop()
	if item, has := q.Take(even); item != 4 || !has {
		t.Fatalf("%d, %v; want 4, which stands first", item, has)
	}
	wantItems(t, &q, 6)
}

func TestACopyGoesOnByItself(t *testing.T) {
	var q queue.Queue[int]
	none := q.Copy()
	q.Add(1, 2, 3)
	c := q.Copy()
	wantItems(t, &none)
	q.Drop()
	c.Add(4)
	q.Add(5)
	wantItems(t, &q, 2, 3, 5)
	wantItems(t, &c, 1, 2, 3, 4)
	c.Drop()
	c.Take(func(item int) bool { return item == 3 })
	wantItems(t, &q, 2, 3, 5)
	wantItems(t, &c, 2, 4)
}
