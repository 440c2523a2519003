package frag

import (
	"gneiss/api"
	"gneiss/arena"
	"gneiss/stack"
)

// list is the free fragments. They stand in layer 5 stacks, each of which has room for stack.MaxCap of them: fragment
// f in stack f / stack.MaxCap, as number f % stack.MaxCap.
type list struct {
	stacks []*stack.Stack
}

// newList has all fragments from 0 to count - 1.
func newList(a *arena.Arena, base int, count int) list {
	var l list
	for count > 0 {
		part := min(count, stack.MaxCap)
		s, _ := stack.NewFull(a, base, part)
		l.stacks = append(l.stacks, s)
		base, count = base+stack.Room(part), count-part
	}
	return l
}

// listRoom is how many words the list of count fragments lies in.
func listRoom(count int) int {
	room := count / stack.MaxCap * stack.Room(stack.MaxCap)
	if rest := count % stack.MaxCap; rest > 0 {
		room += stack.Room(rest)
	}
	return room
}

// has tells whether there are at least n; no more than n are gone over.
func (l list) has(n int) bool {
	for _, s := range l.stacks {
		n -= s.Count(n)
	}
	return n <= 0
}

// take takes one out for the agent, and tells whether there was one; if there is none, no step of the agent is done.
func (l list) take(agent int) (int, bool) {
	for i, s := range l.stacks {
		if s.HasItems() {
			return i*stack.MaxCap + perform(s, agent, api.OpPop, 0), true
		}
	}
	return 0, false
}

// put puts f in for the agent.
func (l list) put(agent int, f int) {
	perform(l.stacks[f/stack.MaxCap], agent, api.OpPush, f%stack.MaxCap)
}

// perform does a whole operation of the agent; it ends, since nobody else steps meanwhile.
func perform(s *stack.Stack, agent int, op int, v int) int {
	if s.Begin(agent, op, v) != api.OK {
		return 0
	}
	for {
		if done, value, _, code := s.Step(agent); done || code != api.OK {
			return value
		}
	}
}
