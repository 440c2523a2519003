package fault_test

import (
	"math"
	"testing"

	"gneiss/api"
	"gneiss/fault"
)

func TestWhatIsAnsweredComesBack(t *testing.T) {
	list, at, code := fault.Caught(func() []int { return []int{3, 4} })
	if len(list) != 2 || list[0] != 3 || list[1] != 4 || at != 0 || code != api.OK {
		t.Errorf("%v, %d, %d", list, at, code)
	}
	text, at, code := fault.Caught(func() string { return "" })
	if text != "" || at != 0 || code != api.OK {
		t.Errorf("%q, %d, %d", text, at, code)
	}
}

func TestWhatIsThrownIsCaught(t *testing.T) {
	for _, want := range []struct {
		at   int
		code api.Errno
	}{{0, api.ErrClassLong}, {7, api.ErrLoadSuper}, {-5, api.ErrLoadMain}, {math.MaxInt, api.ErrNil}, {math.MinInt, -1}} {
		isBehind := false
		list, at, code := fault.Caught(func() []int {
			list := []int{1}
			deep(40, func() { fault.Throw(want.at, want.code) })
			isBehind = true
			return list
		})
		if list != nil || at != want.at || code != want.code || isBehind {
			t.Errorf("%v, %d, %d; want none, %d, %d", list, at, code, want.at, want.code)
		}
	}
}

// deep calls do from within so many calls.
func deep(calls int, do func()) {
	if calls == 0 {
		do()
		return
	}
	deep(calls-1, do)
}

func TestTheInnermostCatches(t *testing.T) {
	outer, at, code := fault.Caught(func() int {
		_, at, code := fault.Caught(func() string {
			fault.Throw(3, api.ErrLoadFace)
			return "x"
		})
		if at != 3 || code != api.ErrLoadFace {
			t.Errorf("%d, %d", at, code)
		}
		return at + 1
	})
	if outer != 4 || at != 0 || code != api.OK {
		t.Errorf("%d, %d, %d", outer, at, code)
	}
}

func TestNoOtherPanicGetsOut(t *testing.T) {
	for _, do := range []func() int{
		func() int { panic("other") },
		func() int { return []int{}[len(t.Name())] },
		func() int { var none *int; return *none },
	} {
		if answer, at, code := fault.Caught(do); answer != 0 || at != 0 || code != api.OK {
			t.Errorf("%d, %d, %d", answer, at, code)
		}
	}
}

func TestWhatIsThrownIsFound(t *testing.T) {
	isDone := false
	if at, code := fault.Found(func() { isDone = true }); at != 0 || code != api.OK || !isDone {
		t.Errorf("%d, %d, %v", at, code, isDone)
	}
	for _, at := range []int{0, -3, math.MaxInt} {
		found, code := fault.Found(func() {
			deep(9, func() { fault.Throw(at, api.ErrVerifyMap) })
			t.Error("it goes on")
		})
		if found != at || code != api.ErrVerifyMap {
			t.Errorf("%d, %d; want %d", found, code, at)
		}
	}
	if at, code := fault.Found(func() { panic("other") }); at != 0 || code != api.OK {
		t.Errorf("%d, %d", at, code)
	}
}
