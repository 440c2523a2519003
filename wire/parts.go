package wire

const (
	partBits  = 7
	more      = 1 << partBits
	mostParts = 5
	// mostLast is the greatest fifth part: 32 bits leave it four, and nothing may follow it.
	mostLast = 1<<(32-partBits*(mostParts-1)) - 1
)

// fold lays the numbers below 0 between the others, so that those near 0 on either side are short.
func fold(x int32) uint32 {
	return uint32(x<<1) ^ uint32(x>>31)
}

func unfold(word uint32) int32 {
	return int32(word>>1) ^ -int32(word&1)
}

func inParts(word uint32) string {
	parts := make([]byte, 0, mostParts)
	for word >= more {
		parts = append(parts, byte(word)|more)
		word >>= partBits
	}
	return string(append(parts, byte(word)))
}

// misfits tells whether no number has part as its part number i (from 0), whatever may follow: a last part of 0
// could have been left out.
func misfits(part byte, i int) bool {
	return i > 0 && part == 0 || i == mostParts-1 && part > mostLast
}
