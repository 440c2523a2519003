package arith

import "gneiss/api"

// word is a type of 32 bits: its own wrap-round is the chapter's modulo 2^32.
type word interface {
	~int32
}

// table holds each operation at its number; one that has no value for its arguments answers false.
type table[W word] [api.ArithUshr + 1]func(a W, b W) (W, bool)

func sum[W word](a W, b W) (W, bool) {
	return a + b, true
}

func difference[W word](a W, b W) (W, bool) {
	return a - b, true
}

func product[W word](a W, b W) (W, bool) {
	return a * b, true
}

// quotient of the least number by -1 needs no case of its own: it wraps round to the least number.
func quotient[W word](a W, b W) (W, bool) {
	if b == 0 {
		return 0, false
	}
	return a / b, true
}

func remainder[W word](a W, b W) (W, bool) {
	if b == 0 {
		return 0, false
	}
	return a % b, true
}

func negative[W word](a W, _ W) (W, bool) {
	return -a, true
}

func bothBits[W word](a W, b W) (W, bool) {
	return a & b, true
}

func eitherBits[W word](a W, b W) (W, bool) {
	return a | b, true
}

func unlikeBits[W word](a W, b W) (W, bool) {
	return a ^ b, true
}

func shiftLeft[W word](a W, b W) (W, bool) {
	return a << places(b), true
}

func shiftRight[W word](a W, b W) (W, bool) {
	return a >> places(b), true
}

func shiftRightUnsigned[W word](a W, b W) (W, bool) {
	return W(uint32(a) >> places(b)), true
}

// places goes by the unsigned bits, so that a b below 0 is taken modulo 32 from 0 on too.
func places[W word](b W) uint32 {
	return uint32(b) % 32
}
