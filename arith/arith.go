// Package arith: the machine's 32-bit whole numbers (DOC.md, chapter 1).
package arith

import (
	"math"

	"gneiss/api"
)

// Do is the value of operation op for a and b, and whether there is one.
func Do(op int, a int, b int) (int, bool) {
	all := operations()
	if op < 0 || op >= len(all) || !isNumber(a) || !isNumber(b) {
		return 0, false
	}
	value, has := all[op](int32(a), int32(b))
	return int(value), has
}

func isNumber(x int) bool {
	return x >= math.MinInt32 && x <= math.MaxInt32
}

// operations makes the table by functions of a settled type: literals inside a generic maker would be allocated anew
// for each call of Do.
func operations() table[int32] {
	return table[int32]{
		api.ArithAdd:  sum[int32],
		api.ArithSub:  difference[int32],
		api.ArithMul:  product[int32],
		api.ArithDiv:  quotient[int32],
		api.ArithRem:  remainder[int32],
		api.ArithNeg:  negative[int32],
		api.ArithAnd:  bothBits[int32],
		api.ArithOr:   eitherBits[int32],
		api.ArithXor:  unlikeBits[int32],
		api.ArithShl:  shiftLeft[int32],
		api.ArithShr:  shiftRight[int32],
		api.ArithUshr: shiftRightUnsigned[int32],
	}
}
