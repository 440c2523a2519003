package model

import (
	"slices"

	"gneiss/api"
	"gneiss/types"
)

// null is the ref that names no object.
const null = 0

// A value is a number, or a ref: an object's number, or null.
type value struct {
	word  int32
	isRef bool
}

func numberOf(n int) value {
	return value{word: int32(n)}
}

func refTo(obj int) value {
	return value{word: int32(obj), isRef: true}
}

// An object is one of any kind: an array is one of ClassObject whose words are its elements, a weak reference one of
// ClassWeak whose word is its referent.
type object struct {
	class    int
	words    []value
	holds    bool  // whether any of its words is a ref that holds what it names; a weak reference's doesn't
	weaks    []int // the weak references to it that are not cleared
	isQueued bool  // whether it ever was
}

// A memory is all objects in the row in which they were made, from 1 on, and the statics by class.
type memory struct {
	objects []object
	statics [][]value
}

// memoryOf has no objects yet.
func memoryOf(p api.Program) memory {
	statics := make([][]value, api.FirstClass, api.FirstClass+len(p.Classes))
	for _, c := range p.Classes {
		statics = append(statics, blanks(c.Statics))
	}
	return memory{statics: statics}
}

// blanks is what fields and statics hold at first.
func blanks(fields []api.Field) []value {
	words := make([]value, 0, len(fields))
	for _, f := range fields {
		words = append(words, value{isRef: types.Ref(f.Type)})
	}
	return words
}

// add is the number of a new object.
func (m *memory) add(class int, words []value) int {
	holds := class != api.ClassWeak && slices.ContainsFunc(words, func(v value) bool { return v.isRef })
	m.objects = append(m.objects, object{class: class, words: words, holds: holds})
	return len(m.objects)
}

func (m *memory) addArray(size int, first value) int {
	return m.add(api.ClassObject, slices.Repeat([]value{first}, size))
}

func (m *memory) addWeak(referent int) int {
	weak := m.add(api.ClassWeak, []value{refTo(referent)})
	o := m.object(referent)
	o.weaks = append(o.weaks, weak)
	return weak
}

func (m *memory) hasObject(obj int) bool {
	return obj >= 1 && obj <= len(m.objects)
}

// object is the one of that number, up to when the next one is made.
func (m *memory) object(obj int) *object {
	return &m.objects[obj-1]
}

// clear makes all weak references to an object null.
func (m *memory) clear(obj int) {
	o := m.object(obj)
	for _, weak := range o.weaks {
		m.object(weak).words[0] = refTo(null)
	}
	o.weaks = nil
}

func (m *memory) copied() memory {
	return memory{
		objects: copies(m.objects, func(o object) object {
			o.words, o.weaks = slices.Clone(o.words), slices.Clone(o.weaks)
			return o
		}),
		statics: copies(m.statics, slices.Clone),
	}
}
