package class

import (
	"strings"

	"gneiss/api"
	"gneiss/wire"
)

// encode goes through all of p for each kind of fault, since one of a kind that is named first comes first wherever it
// stands.
func encode(p api.Program) string {
	visit(checkCount).program(p)
	visit(checkName).program(p)
	visit(checkNumber).program(p)
	var bytes strings.Builder
	bytes.WriteString(magic)
	visit(func(x part) {
		bytes.WriteString(bytesOf(x))
		if bytes.Len() > api.MaxBytes {
			panic(fault{code: api.ErrClassLong})
		}
	}).program(p)
	return bytes.String()
}

func checkCount(x part) {
	if x.kind == partCount && x.number > x.most {
		panic(fault{code: api.ErrClassMany})
	}
}

func checkName(x part) {
	if x.kind == partName && !isName(x.name) {
		panic(fault{code: api.ErrClassName})
	}
}

func checkNumber(x part) {
	isMisfit := x.kind == partSize && (x.number < 0 || x.number > x.most)
	if isMisfit || wire.PutNum(x.number) == "" {
		panic(fault{code: api.ErrClassForm})
	}
}

func bytesOf(x part) string {
	if x.kind == partName {
		return wire.PutText(x.name)
	}
	return wire.PutNum(x.number)
}
