package stack

// operation is one that is under way: where it stands, and the one access that leads on from there.
type operation[S any] struct {
	state  S
	access func(state S) (S, end)
}

// stepper is an operation, whatever its states are.
type stepper interface {
	step() end
}

// end is what a step answers; it is the zero value while the operation isn't done.
type end struct {
	done  bool
	value int
	ok    bool
}

// pushing and popping say what an operation has seen, and which access comes next. Their zero values are where it
// begins, and where it begins again if its swap came too late.
type pushing struct {
	next stage
	seen top
}

type popping struct {
	next  stage
	seen  top
	below link
}

type stage int

// Each stage is one access: the top is loaded; a link is written (by a push) or read (by a pop); the top is swapped.
const (
	look stage = iota
	connect
	swap
)

func (o *operation[S]) step() end {
	state, told := o.access(o.state)
	o.state = state
	return told
}

// newPush looks at the top, leads the item's link to it, and swaps the item in.
func newPush(w words, agent int, item link) *operation[pushing] {
	access := func(p pushing) (pushing, end) {
		switch p.next {
		case look:
			seen, _ := w.tops.Load(agent, w.base)
			return pushing{next: connect, seen: seen}, end{}
		case connect:
			w.links.Store(agent, w.placeOf(item), p.seen.item)
			return pushing{next: swap, seen: p.seen}, end{}
		}
		if !w.swapTop(agent, p.seen, item) {
			return pushing{}, end{}
		}
		return pushing{}, end{done: true, ok: true}
	}
	return &operation[pushing]{access: access}
}

// newPop looks at the top, follows its item's link, and swaps what is below in.
func newPop(w words, agent int) *operation[popping] {
	access := func(p popping) (popping, end) {
		switch p.next {
		case look:
			seen, _ := w.tops.Load(agent, w.base)
			if seen.item == nowhere {
				return popping{}, end{done: true}
			}
			return popping{next: connect, seen: seen}, end{}
		case connect:
			below, _ := w.links.Load(agent, w.placeOf(p.seen.item))
			return popping{next: swap, seen: p.seen, below: below}, end{}
		}
		if !w.swapTop(agent, p.seen, p.below) {
			return popping{}, end{}
		}
		return popping{}, end{done: true, value: p.seen.item.number(), ok: true}
	}
	return &operation[popping]{access: access}
}

func (w words) swapTop(agent int, seen top, item link) bool {
	done, _ := w.tops.Swap(agent, w.base, seen, top{tag: seen.tag + 1, item: item})
	return done
}
