package model

import (
	"slices"

	"gneiss/api"
)

// A frame is a call of a method that is under way: its stack, its locals, and where it is.
type frame struct {
	stack[value]
	class  int
	method int
	at     int // the place of the instruction that it does next
	locals []value
}

func (f *frame) copied() *frame {
	c := *f
	c.items = slices.Clone(f.items)
	c.locals = slices.Clone(f.locals)
	return &c
}

// A thread is a stack of frames, the one that is called on top.
type thread struct {
	stack[*frame]
	obj    int // its ClassThread's
	state  int // of a ready one the monitors tell whether it enters or waits
	awaits int // the object whose monitor it enters or waits for, or whose thread it joins
}

func (t *thread) copied() *thread {
	c := *t
	c.items = copies(t.items, (*frame).copied)
	return &c
}

// isUnderWay tells whether the thread has neither ended nor failed.
func (t *thread) isUnderWay() bool {
	return t.state != api.ThreadEnded && t.state != api.ThreadFailed
}

// told is what is told of a thread in that state.
func (t *thread) told(state int) api.Thread {
	f, has := t.top()
	if !has {
		return api.Thread{State: state}
	}
	return api.Thread{State: state, Frames: t.depth(), Class: f.class, Method: f.method, At: f.at}
}
