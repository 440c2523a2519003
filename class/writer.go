package class

import (
	"strings"

	"gneiss/api"
	"gneiss/fault"
	"gneiss/wire"
)

// encode goes through all of p for each kind of fault, since one of a kind that is named first comes first wherever it
// stands.
func encode(p api.Program) string {
	visit(checkCount).program(p)
	visit(checkName).program(p)
	visit(checkNumber).program(p)
	var bytes strings.Builder
	bytes.WriteString(magic)
	visit(func(x part) {
		bytes.WriteString(bytesOf(x))
		if bytes.Len() > api.MaxBytes {
			fault.Throw(0, api.ErrClassLong)
		}
	}).program(p)
	return bytes.String()
}

func checkCount(x part) {
	if x.kind == partCount && x.number > x.most {
		fault.Throw(0, api.ErrClassMany)
	}
}

func checkName(x part) {
	if x.kind == partName && !IsName(x.name) {
		fault.Throw(0, api.ErrClassName)
	}
}

func checkNumber(x part) {
	isMisfit := x.kind == partSize && (x.number < 0 || x.number > x.most)
	if isMisfit || wire.PutNum(x.number) == "" {
		fault.Throw(0, api.ErrClassForm)
	}
}

func bytesOf(x part) string {
	if x.kind == partName {
		return wire.PutText(x.name)
	}
	return wire.PutNum(x.number)
}
