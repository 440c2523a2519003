package spine

import "gneiss/api"

// cycle is how far the copying of all arrays has come that were there when it began. They are copied in the row of
// their numbers; those that were made since lie in the new half from the first.
type cycle struct {
	on      bool
	last    int  // the number that had been given last when it began
	id      int  // the array that is being copied, or was last
	copying bool // it is being copied
	copied  int  // so many of its words are
	to      int  // where its copy is
	next    int  // where the next array's copy will be
}

// Begin begins a cycle. The new half has room for a copy of each array that is there; what is made from now on comes
// behind these copies.
func (s *Space) Begin() api.Errno {
	switch {
	case s == nil:
		return api.ErrNil
	case s.cycle.on:
		return api.ErrSpineNone
	}
	s.upper = !s.upper
	s.debts.leaving, s.debts.dropped = s.debts.dropped, 0
	s.cycle = cycle{on: true, last: s.given, next: s.fill()}
	return api.OK
}

// Step does one step of the cycle, and tells whether it is under way still.
func (s *Space) Step(agent int) (bool, api.Errno) {
	switch {
	case s == nil:
		return false, api.ErrNil
	case !s.arena.HasAgent(agent):
		return false, api.ErrSpineId
	case s.cycle.on:
		s.advance(agent)
	}
	return s.cycle.on, api.OK
}

func (s *Space) advance(agent int) {
	x := s.moving()
	switch {
	case x == nil:
		s.startNext(agent)
	case s.cycle.copied < x.n:
		s.copyWord(agent, x)
	default:
		s.finish(agent, x)
	}
}

// moving leads to the array that is being copied; nil, if none is, or if it was dropped meanwhile.
func (s *Space) moving() *array {
	if !s.cycle.copying {
		return nil
	}
	return s.arrays.find(s.cycle.id)
}

// startNext lets the next array have a twin; if none is left the cycle is over.
func (s *Space) startNext(agent int) {
	c := &s.cycle
	x := s.arrays.behind(c.id)
	if x == nil || x.id > c.last {
		s.end()
		return
	}
	c.id, c.copying, c.copied = x.id, true, 0
	c.to, c.next = c.next, c.next+size(x.n)
	s.setTwin(agent, x.at, wordsOf(c.to))
}

func (s *Space) copyWord(agent int, x *array) {
	i := s.cycle.copied
	word, _ := s.arena.Load(agent, s.place(s.lead(agent, x), i))
	s.arena.Store(agent, s.place(s.twin(agent, x), i), word)
	s.cycle.copied++
}

// finish gives the array the sentinel ahead of its copy, which is its place from now on.
func (s *Space) finish(agent int, x *array) {
	s.lay(agent, s.cycle.to)
	x.at = s.cycle.to
	s.cycle.copying = false
}

// end gives the words of the arrays that the cycle left behind back.
func (s *Space) end() {
	s.debts.taken -= s.debts.leaving
	s.debts.leaving = 0
	s.cycle = cycle{}
}
