package spine

// headWords are those that an array takes beside its own: its sentinel; behind it its twin; two that hold nothing.
const headWords = 4

// nowhere is a twin that leads to no words: no words of an array lie there, since its head stands ahead of them.
const nowhere = 0

// size is how many words of a half an array of n words takes.
func size(n int) int {
	return n + headWords
}

// wordsOf is where the words of an array lie whose sentinel is at place at, if it was laid there.
func wordsOf(at int) int {
	return at + headWords
}

// fill is where the half begins that new arrays and copies go into.
func (s *Space) fill() int {
	if s.upper {
		return s.base + s.half
	}
	return s.base
}

// lay makes at the sentinel of an array whose words lie behind it, and which is not being copied.
func (s *Space) lay(agent int, at int) {
	s.arena.Store(agent, at, wordsOf(at))
	s.setTwin(agent, at, nowhere)
}

// lead is where the words of x lie.
func (s *Space) lead(agent int, x *array) int {
	start, _ := s.arena.Load(agent, x.at)
	return start
}

// twin is where the words lie that the words of x are being copied to; nowhere, if they are not.
func (s *Space) twin(agent int, x *array) int {
	start, _ := s.arena.Load(agent, x.at+1)
	return start
}

func (s *Space) setTwin(agent int, at int, start int) {
	s.arena.Store(agent, at+1, start)
}

// place is that of the word i of those that begin at start. A start that somebody else wrote into the words leads no
// further than the space's own.
func (s *Space) place(start int, i int) int {
	at := start + i
	if at < s.base || at >= s.base+2*s.half {
		return s.base
	}
	return at
}
