package heap

import (
	"gneiss/api"
	"gneiss/arena"
	"gneiss/frag"
	"gneiss/object"
	"gneiss/spine"
)

// kind is how many words a cell of a kind may have, and who keeps these cells.
type kind struct {
	least  int
	most   int
	keeper keeper
}

// keeper keeps the words of cells, by numbers of its own. It refuses nothing that the heap lets through: nobody else
// comes to the heap's arena, and there are as many words as the heap's room promises.
type keeper interface {
	Make(agent int, n int) (int, api.Errno)
	Load(agent int, at int, i int) (int, api.Errno)
	Put(agent int, at int, i int, v int) api.Errno
	Free(agent int, at int) api.Errno
}

// kindsIn is the kinds of cells, by their numbers in api, with keepers that share the arena's words. A CellWeak is so
// small that a fragment holds it: it is kept as an object is, and so need not be moved.
func kindsIn(a *arena.Arena) table[kind] {
	fields, words := keepersIn(a)
	var kinds table[kind]
	for _, k := range [api.CellWeak]kind{
		api.CellObject - 1: {least: 0, most: object.MaxSize, keeper: fields},
		api.CellInts - 1:   {least: 0, most: api.MaxArray, keeper: words},
		api.CellRefs - 1:   {least: 0, most: api.MaxArray, keeper: words},
		api.CellWeak - 1:   {least: 1, most: 1, keeper: fields},
	} {
		kinds.add(k)
	}
	return kinds
}

// keepersIn is the one of objects and the one of arrays. The fragments come first; the arrays have all that is left, so
// that they need few cycles.
func keepersIn(a *arena.Arena) (*object.Store, arrays) {
	count := fragmentsFor(roomOf(a.Words()))
	pool, _ := frag.New(a, 0, count)
	fields, _ := object.New(pool)
	words, _ := spine.New(a, frag.Room(count), a.Words()-frag.Room(count))
	return fields, arrays{space: words}
}

// arrays keeps cells as arrays that move.
type arrays struct {
	space *spine.Space
}

// Make does a cycle if room is short: arrays that were dropped give their words back by that alone.
func (a arrays) Make(agent int, n int) (int, api.Errno) {
	at, code := a.space.Make(agent, n)
	if code != api.ErrSpineFull {
		return at, code
	}
	a.cycle(agent)
	return a.space.Make(agent, n)
}

func (a arrays) Load(agent int, at int, i int) (int, api.Errno) {
	return a.space.Get(agent, at, i)
}

func (a arrays) Put(agent int, at int, i int, v int) api.Errno {
	return a.space.Set(agent, at, i, v)
}

func (a arrays) Free(_ int, at int) api.Errno {
	return a.space.Drop(at)
}

// cycle does a whole cycle, by steps of the agent.
func (a arrays) cycle(agent int) {
	a.space.Begin()
	for under := true; under; {
		under, _ = a.space.Step(agent)
	}
}
