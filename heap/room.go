package heap

import "gneiss/object"

const (
	minWords = 512
	// beside is what a cell is charged with beside its own words.
	beside = 16
)

// Charge is what a cell of n words takes of the heap's room.
func Charge(n int) int {
	return n + beside
}

// roomOf is the room of a heap of so many words in which no cell is: a quarter of them, rounded up.
func roomOf(words int) int {
	return (words + 3) / 4
}

// fragmentsFor is how many fragments are enough for room: whatever cells are there, an object that there is room for
// can be made.
func fragmentsFor(room int) int {
	count := 0
	for n := range object.MaxSize + 1 {
		if left := room - Charge(n); left >= 0 {
			count = max(count, mostTaken(left)+object.Needs(n))
		}
	}
	return count
}

// mostTaken is a bound on how many fragments objects take that are charged with so much in all: no mixture of sizes
// takes more for its charge than the one size that takes the most.
func mostTaken(charged int) int {
	taken := 0
	for n := range object.MaxSize + 1 {
		taken = max(taken, charged*object.Takes(n)/Charge(n))
	}
	return taken
}
