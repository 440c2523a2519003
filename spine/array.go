package spine

import (
	"cmp"
	"slices"
)

// array is one of a space: at is the place of its sentinel word, which leads to its n words.
type array struct {
	id int
	at int
	n  int
}

// list is arrays, their numbers rising.
type list []array

func byId(x array, id int) int {
	return cmp.Compare(x.id, id)
}

// add adds an array whose number is above all others'.
func (l *list) add(x array) {
	*l = append(*l, x)
}

// find leads to the array id; nil, if there is none.
func (l list) find(id int) *array {
	i, has := slices.BinarySearchFunc(l, id, byId)
	if !has {
		return nil
	}
	return &l[i]
}

// behind leads to the array with the least number above id; nil, if there is none.
func (l list) behind(id int) *array {
	i, _ := slices.BinarySearchFunc(l, id+1, byId)
	if i == len(l) {
		return nil
	}
	return &l[i]
}

func (l *list) remove(id int) {
	if i, has := slices.BinarySearchFunc(*l, id, byId); has {
		*l = slices.Delete(*l, i, i+1)
	}
}
