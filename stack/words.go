package stack

import "gneiss/arena"

// words is how a stack lies in its arena: at base the top, behind it for each number a link to what stands below it.
type words struct {
	tops  arena.View[top]
	links arena.View[link]
	base  int
	cap   int
}

// link leads to a number: it is one more than that, so that 0 can lead nowhere.
type link int

const nowhere link = 0

// top is what stands on top. The tag grows by one with each swap, so that a swap by one who saw an earlier top fails,
// even if the same number stands there again.
type top struct {
	tag  int
	item link
}

func linkTo(number int) link {
	return link(number + 1)
}

func (l link) number() int {
	return int(l) - 1
}

func wordsOf(a *arena.Arena, base int, cap int) words {
	return words{
		tops:  arena.ViewOf(a, readTop(cap+1), writeTop(cap+1)),
		links: arena.ViewOf(a, readLink(cap+1), writeLink),
		base:  base,
		cap:   cap,
	}
}

// clear needs no links to be cleared: each is written ahead of its being read.
func (w words) clear() {
	w.tops.Poke(w.base, top{})
}

func (w words) fill() {
	for number := range w.cap - 1 {
		w.links.Poke(w.placeOf(linkTo(number)), linkTo(number+1))
	}
	w.links.Poke(w.placeOf(linkTo(w.cap-1)), nowhere)
	w.tops.Poke(w.base, top{item: linkTo(0)})
}

func (w words) peekTop() link {
	seen, _ := w.tops.Peek(w.base)
	return seen.item
}

func (w words) peekBelow(item link) link {
	below, _ := w.links.Peek(w.placeOf(item))
	return below
}

func (w words) placeOf(item link) int {
	return w.base + int(item)
}

// readTop makes any word a top whose item is one of the links, of which there are so many, and which writeTop makes the
// same word again; so no word that somebody else wrote leads out of the stack's words, or can't be swapped.
func readTop(links int) func(word int) top {
	return func(word int) top {
		tag, item := word/links, word%links
		if item < 0 {
			tag, item = tag-1, item+links
		}
		return top{tag: tag, item: link(item)}
	}
}

func writeTop(links int) func(seen top) int {
	return func(seen top) int {
		return seen.tag*links + int(seen.item)
	}
}

func readLink(links int) func(word int) link {
	return func(word int) link {
		if word < 0 || word >= links {
			return nowhere
		}
		return link(word)
	}
}

func writeLink(to link) int {
	return int(to)
}
