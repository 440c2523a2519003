package refs

import (
	"slices"
	"testing"
)

func TestQueueFirstInFirstOut(t *testing.T) {
	var q queue[string]
	q.drop()
	if item, has := q.first(); item != "" || has {
		t.Fatalf("%q, %v; want none", item, has)
	}
	q.add("a", "b")
	q.add()
	q.add("c")
	if got := slices.Collect(q.all()); !slices.Equal(got, []string{"a", "b", "c"}) {
		t.Fatalf("%q", got)
	}
	for _, want := range []string{"a", "b", "c"} {
		if item, has := q.first(); item != want || !has {
			t.Fatalf("%q, %v; want %q", item, has, want)
		}
		q.drop()
		q.add(want + want)
	}
	if got := slices.Collect(q.all()); !slices.Equal(got, []string{"aa", "bb", "cc"}) {
		t.Fatalf("%q", got)
	}
}

func TestQueueKeepsNothingThatIsHandedIn(t *testing.T) {
	var q queue[int]
	items := []int{1, 2, 3}
	q.add(items...)
	items[0], items[2] = 7, 7
	q.drop()
	q.drop()
	if item, has := q.first(); item != 3 || !has {
		t.Fatalf("%d, %v; want 3", item, has)
	}
	if items[1] != 2 {
		t.Fatalf("%v was changed", items)
	}
}
