package legal_test

import (
	"slices"
	"strconv"
	"strings"
	"testing"

	"gneiss/api"
	"gneiss/legal"
	"gneiss/model"
)

// random is a fixed row of numbers.
type random uint64

func (r *random) next(n int) int {
	*r = *r*6364136223846793005 + 1442695040888963407
	return int(uint64(*r) >> 33 % uint64(n))
}

func pick[T any](r *random, items ...T) T {
	return items[r.next(len(items))]
}

// A thing is an object; its words are its refs.
type thing struct {
	number int
	class  int
	words  []*thing
	queued bool
}

// A world is what a main makes while it is written, told by the chapter's words one by one.
type world struct {
	r         *random
	lines     []string
	locals    [5]*thing
	isRefs    [5]bool // which locals hold what is known to be an array of refs
	statics   [2]*thing
	stack     []*thing
	things    []*thing
	queue     []*thing
	receiver  *thing // who is finalized
	finalized int    // the steps that its finalize did
	acts      []act
}

// An act is what is done, and what is to be so behind it.
type act struct {
	steps  [2]int // of main, of the finalizer
	clear  int
	queue  int
	want   []int       // those reached
	clears []api.Errno // by object, from 10 on
	queues []api.Errno
}

func (w *world) put(lines ...string) {
	w.lines = append(w.lines, lines...)
}

func word(name string, operands ...int) string {
	for _, n := range operands {
		name += " " + strconv.Itoa(n)
	}
	return name
}

func (w *world) make(class int, words int) *thing {
	x := &thing{number: 10 + len(w.things), class: class, words: make([]*thing, words)}
	w.things = append(w.things, x)
	return x
}

// keep stores what is on top.
func (w *world) keep(x *thing, isRefs bool) {
	to := w.r.next(len(w.locals))
	w.put(word("store", to))
	w.locals[to], w.isRefs[to] = x, isRefs
}

// fieldsOf is how many refs an object of a class has.
func fieldsOf(class int) int {
	switch class {
	case theNode, theFile, theLog, theDeepLog:
		return 1
	case theLeaf:
		return 2
	}
	return 0
}

// field is the class whose own field a thing's i-th ref is, and its number there.
func (x *thing) field(i int) (int, int) {
	switch {
	case x.class == theNode, x.class == theLeaf && i == 0:
		return theNode, 1
	case x.class == theLeaf:
		return theLeaf, 0
	}
	return theFile, 0
}

func (w *world) create() {
	switch w.r.next(6) {
	case 0:
		n := w.r.next(4)
		w.put(word("int", n), "newrefs")
		w.keep(w.make(api.ClassObject, n), true)
	case 1:
		n := w.r.next(len(w.things) + 20)
		w.put("int 1", "newints", "dup", "int 0", word("int", n), "putint")
		w.keep(w.make(api.ClassObject, 0), false)
	default:
		class := pick(w.r, api.ClassObject, theNode, theNode, theLeaf, theFile, theLog, theDeepLog)
		w.put(word("new", class))
		w.keep(w.make(class, fieldsOf(class)), false)
	}
}

// name makes a word of a local's thing name another one's, or null.
func (w *world) name() {
	of, other := w.r.next(len(w.locals)), w.r.next(len(w.locals))
	x := w.locals[of]
	if x == nil || len(x.words) == 0 || x.class == api.ClassWeak || x.class == api.ClassObject && !w.isRefs[of] {
		return
	}
	i := w.r.next(len(x.words))
	class, own := x.field(i)
	w.put(word("load", of))
	if w.isRefs[of] {
		w.put(word("int", i))
	} else {
		w.put(word("cast", class))
	}
	x.words[i] = w.locals[other]
	if w.r.next(5) == 0 {
		x.words[i] = nil
		w.put("null")
	} else {
		w.put(word("load", other))
	}
	if w.isRefs[of] {
		w.put("putref")
	} else {
		w.put(word("putfield", class, own))
	}
}

// look gets a word of a local's thing; a weak reference's by deref.
func (w *world) look() {
	of := w.r.next(len(w.locals))
	x := w.locals[of]
	if x == nil || len(x.words) == 0 || x.class == api.ClassObject && !w.isRefs[of] {
		return
	}
	i := w.r.next(len(x.words))
	class, own := x.field(i)
	w.put(word("load", of))
	switch {
	case w.isRefs[of]:
		w.put(word("int", i), "getref")
	case x.class == api.ClassWeak:
		w.put(word("cast", api.ClassWeak), "deref")
	default:
		w.put(word("cast", class), word("getfield", class, own))
	}
	w.keep(x.words[i], false)
}

func (w *world) weaken() {
	of := w.r.next(len(w.locals))
	if w.locals[of] == nil {
		return
	}
	w.put(word("load", of), "makeweak")
	x := w.make(api.ClassWeak, 1)
	x.words[0] = w.locals[of]
	w.keep(x, false)
}

func (w *world) useStatic() {
	which, of := w.r.next(2), w.r.next(len(w.locals))
	operands := []int{pick(w.r, theMain, theLeaf)}
	if operands[0] == theMain {
		which, operands = 0, append(operands, 1)
	} else {
		which, operands = 1, append(operands, 0)
	}
	if w.r.next(2) == 0 {
		w.put(word("getstatic", operands...))
		w.keep(w.statics[which], false)
		return
	}
	w.put(word("load", of), word("putstatic", operands...))
	w.statics[which] = w.locals[of]
}

func (w *world) useStack() {
	of := w.r.next(len(w.locals))
	if len(w.stack) < 4 && w.r.next(2) == 0 {
		w.put(word("load", of))
		w.stack = append(w.stack, w.locals[of])
	} else if len(w.stack) > 0 {
		w.put("pop")
		w.stack = w.stack[:len(w.stack)-1]
	}
}

func (w *world) forget() {
	for range 1 + w.r.next(3) {
		w.put("null")
		w.keep(nil, false)
	}
}

// finalize is a step of the finalizer: finalize puts its receiver into theMain's static.
func (w *world) finalize() bool {
	switch {
	case w.receiver == nil && len(w.queue) == 0:
		return false
	case w.receiver == nil:
		w.receiver, w.queue, w.finalized = w.queue[0], w.queue[1:], 0
		return true
	}
	w.finalized++
	if w.finalized == 2 {
		w.statics[0] = w.receiver
	} else if w.finalized == 3 {
		w.receiver = nil
	}
	return true
}

// reached adds to what is reached until nothing comes to it.
func (w *world) reached() []int {
	all := map[*thing]bool{}
	for _, x := range slices.Concat(w.locals[:], w.statics[:], w.stack, w.queue, []*thing{w.receiver}) {
		all[x] = true
	}
	for more := true; more; {
		more = false
		for _, x := range w.things {
			if !all[x] || x.class == api.ClassWeak {
				continue
			}
			for _, y := range x.words {
				more = more || !all[y]
				all[y] = true
			}
		}
	}
	numbers := []int{1, 2, 3, 4, 5, 6, 7, 8, 9}
	for _, x := range w.things {
		if all[x] {
			numbers = append(numbers, x.number)
		}
	}
	return numbers
}

func (w *world) codesOf(x *thing, reached []int) (api.Errno, api.Errno) {
	is := func(y *thing) bool { return y.class == api.ClassWeak && y.words[0] == x }
	isFinal := x.class == theFile || x.class == theLog || x.class == theDeepLog
	clears, queues := api.OK, api.OK
	if slices.Contains(reached, x.number) {
		clears, queues = api.ErrLegalReached, api.ErrLegalReached
	}
	if x.queued {
		queues = api.ErrLegalTwice
	}
	if !isFinal || slices.ContainsFunc(w.things, is) {
		queues = api.ErrLegalObject
	}
	return clears, queues
}

// did tells what is so behind an act.
func (w *world) did(a act) {
	a.want = w.reached()
	for _, x := range w.things {
		clears, queues := w.codesOf(x, a.want)
		a.clears, a.queues = append(a.clears, clears), append(a.queues, queues)
	}
	w.acts = append(w.acts, a)
}

// collect clears what may be cleared, or queues what may be queued.
func (w *world) collect() {
	last := w.acts[len(w.acts)-1]
	for at, x := range w.things {
		switch {
		case last.queues[at] == api.OK && w.r.next(2) == 0:
			x.queued = true
			w.queue = append(w.queue, x)
			w.did(act{queue: x.number})
			return
		case last.clears[at] == api.OK && w.r.next(3) == 0:
			for _, y := range w.things {
				if y.class == api.ClassWeak && y.words[0] == x {
					y.words[0] = nil
				}
			}
			w.did(act{clear: x.number})
			return
		}
	}
}

func (w *world) write() {
	w.did(act{})
	// Of each local it is known from the beginning on that it is an object, or null.
	w.put("null", "store 0", "null", "store 1", "null", "store 2", "null", "store 3", "null", "store 4")
	w.did(act{steps: [2]int{len(w.lines), 0}})
	for len(w.lines) < 280 {
		ahead := len(w.lines)
		switch w.r.next(12) {
		case 0, 1:
			w.create()
		case 2, 3, 4:
			w.name()
		case 5:
			w.look()
		case 6, 7:
			w.weaken()
		case 8:
			w.useStatic()
		case 9:
			w.useStack()
		case 10:
			w.forget()
		default:
			if w.finalize() {
				w.did(act{steps: [2]int{0, 1}})
			}
		}
		if len(w.lines) > ahead {
			w.did(act{steps: [2]int{len(w.lines) - ahead, 0}})
		}
		if w.r.next(3) == 0 {
			w.collect()
		}
	}
}

func (a act) do(t *testing.T, m *model.Machine) {
	t.Helper()
	steps(t, m, 0, a.steps[0])
	steps(t, m, 1, a.steps[1])
	if a.clear > 0 {
		wantClear(t, m, a.clear, api.OK)
		m.Clear(a.clear)
	}
	if a.queue > 0 {
		wantQueue(t, m, a.queue, api.OK)
		if e := m.Queue(a.queue); e != api.OK {
			t.Fatalf("Queue(%d) of the machine = %d", a.queue, e)
		}
	}
	if got := legal.Reached(m); !slices.Equal(got, a.want) {
		t.Fatalf("Reached = %v; want %v", got, a.want)
	}
	if got := m.Objects() - 9; got != len(a.clears) {
		t.Fatalf("%d objects were made; want %d", got, len(a.clears))
	}
	for i, want := range a.clears {
		wantClear(t, m, 10+i, want)
		wantQueue(t, m, 10+i, a.queues[i])
	}
}

func TestP22_1Walks(t *testing.T) {
	clears, queues := map[api.Errno]int{}, map[api.Errno]int{}
	finalized := 0
	for seed := range 300 {
		r := random(seed)
		w := &world{r: &r}
		w.write()
		m := machineOf(t, source{
			main:     "5 8;" + strings.Join(w.lines, ";") + ";return",
			finalize: "1 1;load 0;putstatic 11 1;return",
		}, 2)
		for _, a := range w.acts {
			a.do(t, m)
			finalized += a.steps[1]
			for i := range a.clears {
				clears[a.clears[i]]++
				queues[a.queues[i]]++
			}
		}
	}
	for _, e := range []api.Errno{api.OK, api.ErrLegalReached, api.ErrLegalObject, api.ErrLegalTwice} {
		if queues[e] < 1000 {
			t.Errorf("Queue answered %d only %d times", e, queues[e])
		}
	}
	for _, e := range []api.Errno{api.OK, api.ErrLegalReached} {
		if clears[e] < 1000 {
			t.Errorf("Clear answered %d only %d times", e, clears[e])
		}
	}
	if finalized < 500 {
		t.Errorf("only %d steps of the finalizer", finalized)
	}
}

// TestR1GreatMachines ends in a time that the number of objects explains: one long row of nodes, each of which names the
// one ahead of it, among as many that nothing names; and many great arrays.
func TestR1GreatMachines(t *testing.T) {
	s := source{main: "1 3;null;store 0;new 12;dup;load 0;putfield 12 1;store 0;new 14;pop;goto 2;map 2 1 16"}
	m := machineOf(t, s, 2)
	steps(t, m, 0, 2+8*10000)
	got := legal.Reached(m)
	if len(got) != 9+10000 || got[9] != 10 || got[9+9999] != 10+2*9999 {
		t.Fatalf("%d are reached", len(got))
	}
	for obj := 11; obj < 2000; obj += 2 {
		wantQueue(t, m, obj, api.OK)
		wantClear(t, m, obj-1, api.ErrLegalReached)
	}
	s = source{main: "1 4;int 1000;newrefs;store 0;int 999;newints;pop;load 0;int 0;load 0;putref;goto 0;map 0 1 0"}
	m = machineOf(t, s, 2)
	steps(t, m, 0, 11*1800)
	for range 300 {
		if got := legal.Reached(m); len(got) != 10 {
			t.Fatalf("%v is reached", got)
		}
	}
}
