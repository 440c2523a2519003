package code

import (
	"slices"
	"strconv"

	"gneiss/api"
)

// operations is the words of arith's operations, each at its number.
func operations() [api.ArithUshr + 1]string {
	return [api.ArithUshr + 1]string{
		api.ArithAdd:  "add",
		api.ArithSub:  "sub",
		api.ArithMul:  "mul",
		api.ArithDiv:  "div",
		api.ArithRem:  "rem",
		api.ArithNeg:  "neg",
		api.ArithAnd:  "and",
		api.ArithOr:   "or",
		api.ArithXor:  "xor",
		api.ArithShl:  "shl",
		api.ArithShr:  "shr",
		api.ArithUshr: "ushr",
	}
}

// textOfA is the word of arith's operation, if there is such a one; of all other instructions A's digits.
func textOfA(i api.Ins) (string, bool) {
	if i.Op == api.InsArith {
		return operation(scope{}, i.A)
	}
	return strconv.Itoa(i.A), true
}

// readA is the A that a word may be the text of; what is read from any other word has another text.
func readA(op int, word string) int {
	if op == api.InsArith {
		words := operations()
		return slices.Index(words[:], word)
	}
	return readNumber(word)
}

// readNumber leaves errors out: the number that stands beside one has another text than the word.
func readNumber(word string) int {
	number, _ := strconv.Atoi(word)
	return number
}
