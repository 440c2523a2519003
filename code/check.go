package code

import (
	"gneiss/api"
)

func (in scope) check() (int, api.Errno) {
	rows := table()
	for place, i := range in.code {
		if code := in.faultOf(i, rows[:]); code != api.OK {
			return place, code
		}
	}
	count := len(in.code)
	if last, has := at(in.code, count-1); !has || !Ends(last.Op) {
		return count, api.ErrCodeTarget
	}
	return 0, api.OK
}

func (in scope) faultOf(i api.Ins, rows []row) api.Errno {
	r, has := at(rows, i.Op)
	switch {
	case !has:
		return api.ErrCodeOp
	case hasSpare(i, r.operands.count()):
		return api.ErrCodeArgs
	case r.operands.name(in, i):
		return api.OK
	case Jumps(i.Op):
		return api.ErrCodeTarget
	}
	return api.ErrCodeArgs
}

// hasSpare tells whether a number of i that is no operand of it is not 0.
func hasSpare(i api.Ins, count int) bool {
	return count < 1 && i.A != 0 || count < 2 && i.B != 0
}
