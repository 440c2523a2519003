package model

import (
	"slices"
	"testing"
)

func TestStack(t *testing.T) {
	var s stack[string]
	if item, has := s.top(); item != "" || has || s.depth() != 0 {
		t.Fatalf("%q, %v, %d", item, has, s.depth())
	}
	s.push("a")
	s.push("b", "c", "d")
	s.push()
	if item, has := s.top(); item != "d" || !has || s.depth() != 4 {
		t.Fatalf("%q, %v, %d", item, has, s.depth())
	}
	if item := s.pop(); item != "d" {
		t.Fatal(item)
	}
	if last := s.popLast(2); !slices.Equal(last, []string{"b", "c"}) {
		t.Fatal(last)
	}
	if last := s.popLast(0); len(last) != 0 || s.depth() != 1 {
		t.Fatal(last, s.depth())
	}
	s.push("e")
	if !slices.Equal(s.items, []string{"a", "e"}) {
		t.Fatal(s.items)
	}
	s.empty()
	if _, has := s.top(); has || s.depth() != 0 {
		t.Fatal(s.items)
	}
}

func TestCopiesShareNothing(t *testing.T) {
	rows := [][]int{{1, 2}, {3}, nil}
	own := copies(rows, slices.Clone)
	own[0][0], own[1] = 9, append(own[1], 9)
	if !slices.Equal(rows[0], []int{1, 2}) || !slices.Equal(rows[1], []int{3}) || len(own) != 3 {
		t.Fatal(rows, own)
	}
}
