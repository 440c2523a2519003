package object

import "gneiss/api"

// An object lies in a chain of fragments. Each has a header, which leads to the next one, and behind it fields, in the
// row of their numbers. The last fragment leads nowhere: its header's word is a field as well, its last one.
const (
	header  = 0
	perFrag = api.FragWords - 1
)

// Takes is how many fragments an object of n fields lies in: all fields but one are perFrag to a fragment, and one more
// is in the last header's word.
func Takes(n int) int {
	return max(1, (n-1+perFrag-1)/perFrag)
}

// Needs is how many fragments must be free for an object of n fields to be made: chapter 8's own number, which the chain
// never takes more than.
func Needs(n int) int {
	return 1 + (n+5)/6
}

// placeOf is where the field i of an object of n fields lies: so many hops behind its first fragment, in that word.
func placeOf(i int, n int) (int, int) {
	hops := min(i/perFrag, Takes(n)-1)
	return hops, (header + 1 + i - hops*perFrag) % api.FragWords
}

// numberOf is the number of the object whose first fragment is f.
func numberOf(f int) int {
	return f + 1
}

// firstOf is the first fragment of the object ref.
func firstOf(ref int) int {
	return ref - 1
}

// chain takes so many fragments, which the pool must have, and is the first of them. It is laid from its last one on,
// so that each header can be written at once.
func (s *Store) chain(agent int, count int) int {
	first, _ := s.pool.Alloc(agent)
	for range count - 1 {
		next := first
		first, _ = s.pool.Alloc(agent)
		s.pool.Store(agent, first, header, next)
	}
	return first
}

// find is the fragment and the word of the field i of the object ref, by a step of the agent for each hop.
func (s *Store) find(agent int, ref int, i int) (int, int, api.Errno) {
	n, code := s.access(agent, ref)
	switch {
	case code != api.OK:
		return 0, 0, code
	case i < 0 || i >= n:
		return 0, 0, api.ErrObjectBounds
	}
	hops, word := placeOf(i, n)
	f := firstOf(ref)
	for range hops {
		if f, code = s.pool.Load(agent, f, header); code != api.OK {
			return 0, 0, ofObject(code)
		}
	}
	return f, word, api.OK
}

// row is the first count fragments of the object ref, by a step of the agent for each hop; fewer, if somebody else has
// broken the chain.
func (s *Store) row(agent int, ref int, count int) []int {
	f := firstOf(ref)
	row := []int{f}
	for range count - 1 {
		next, code := s.pool.Load(agent, f, header)
		if code != api.OK {
			break
		}
		f = next
		row = append(row, f)
	}
	return row
}

// ofObject is what an object's store answers where its pool answers code. The pool refuses a fragment of an object
// only if somebody else has freed it, or has broken the chain that leads to it: then there is no such object any more.
func ofObject(code api.Errno) api.Errno {
	if code != api.OK {
		return api.ErrObjectRef
	}
	return api.OK
}
