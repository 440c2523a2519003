package heap

import (
	"slices"
	"testing"

	"gneiss/api"
	"gneiss/frag"
	"gneiss/object"
)

// In a heap of each size the fragments and the arrays find room beside one another: enough of either for all cells
// that there is room for.
func TestP9_2EachSizeOfHeapIsShared(t *testing.T) {
	taken := mostTakenExactly(roomOf(api.MaxWords))
	for words := minWords; words <= api.MaxWords; words++ {
		room := roomOf(words)
		count := fragmentsFor(room)
		if 4*room < words || count > 2000 || 14*count+64 > words {
			t.Fatalf("%d words: room %d, %d fragments", words, room, count)
		}
		if half := (words - frag.Room(count)) / 2; half < room {
			t.Fatalf("%d words: room %d, a half of %d words for arrays", words, room, half)
		}
		for n := range object.MaxSize + 1 {
			if taken[room-Charge(n)]+object.Needs(n) > count {
				t.Fatalf("%d words: an object of %d fields may find too few of %d fragments", words, n, count)
			}
		}
	}
}

// mostTakenExactly is, for each charge up to most, how many fragments objects can take that are charged with no more.
func mostTakenExactly(most int) []int {
	taken := make([]int, most+1)
	for charged := range taken {
		for n := range min(object.MaxSize+1, charged-beside+1) {
			taken[charged] = max(taken[charged], taken[charged-Charge(n)]+object.Takes(n))
		}
	}
	return taken
}

func TestTable(t *testing.T) {
	var items table[string]
	for _, number := range []int{-1, 0, 1} {
		items.remove(number)
		if item, has := items.find(number); item != "" || has {
			t.Errorf("an empty table: find(%d) = %q, %v", number, item, has)
		}
	}
	for i, item := range []string{"a", "b", "c"} {
		if number := items.add(item); number != i+1 {
			t.Errorf("add(%q) = %d", item, number)
		}
	}
	items.remove(2)
	items.remove(2)
	if item, has := items.find(2); item != "" || has || len(items.numbers()) != 2 {
		t.Errorf("find(2) = %q, %v; numbers() = %v", item, has, items.numbers())
	}
	items.remove(3)
	if number := items.add("d"); number != 4 {
		t.Errorf("3 were given, and none is given twice; add = %d", number)
	}
	if item, has := items.find(4); item != "d" || !has || !slices.Equal(items.numbers(), []int{1, 4}) {
		t.Errorf("find(4) = %q, %v; numbers() = %v", item, has, items.numbers())
	}
	if item, has := items.find(3); item != "" || has {
		t.Errorf("find(3) = %q, %v", item, has)
	}
}
