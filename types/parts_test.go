package types_test

import (
	"math"
	"testing"

	"gneiss/api"
	"gneiss/load"
)

// extremes are numbers at the edges of what an int, a number of layer 1, and a type may be.
var extremes = []int{math.MinInt, math.MinInt + 1, math.MinInt + 15, math.MinInt + 16, math.MinInt32 - 1, math.MinInt32, -17,
	-16, -1, 0, 1, 2, 3, 4, 5, 6, 14, 15, 16, 17, 26, 27, 28, 1 << 16, math.MaxInt32, math.MaxInt32 + 1, 1 << 62,
	math.MaxInt - 16, math.MaxInt - 1, math.MaxInt}

// The numbers of the classes of program.
const (
	mainClass = 11 + iota
	shape
	square
	drawn
	painted
	worker
	trouble
	behindAll
)

// program has a Face drawn, a Face painted that is drawn, a class shape that is painted, and square below shape; worker is
// a ClassThread, trouble a ClassArithFault.
func program() api.Program {
	return api.Program{Main: mainClass, Classes: []api.Class{
		{Name: "Main", Methods: []api.Method{{Name: "main", Static: true}}},
		{Name: "Shape", Faces: []int{painted}},
		{Name: "Square", Super: shape, Fields: []api.Field{{Name: "side", Type: api.TypeInt}}},
		{Name: "Drawn", Face: true},
		{Name: "Painted", Face: true, Faces: []int{drawn}},
		{Name: "Worker", Super: api.ClassThread},
		{Name: "Trouble", Super: api.ClassArithFault},
	}}
}

func layouts(t *testing.T) []api.Layout {
	t.Helper()
	ls, class, code := load.Load(program())
	if code != api.OK {
		t.Fatalf("class %d: %d", class, code)
	}
	return ls
}

// typeOf is the type of a class's objects.
func typeOf(class int) int {
	return api.TypeClass + class
}

// random is a fixed row of numbers.
type random uint64

func (r *random) next(n int) int {
	*r = *r*6364136223846793005 + 1442695040888963407
	return int(uint64(*r) >> 33 % uint64(n))
}
