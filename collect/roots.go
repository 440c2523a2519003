package collect

import "gneiss/api"

// roots is the refs that a thread has pushed and not popped, the last one on top.
type roots struct {
	refs []int
}

func (r *roots) isFull() bool {
	return len(r.refs) >= api.MaxRoots
}

func (r *roots) push(ref int) {
	r.refs = append(r.refs, ref)
}

// pop takes the top one off: it, and whether there was one.
func (r *roots) pop() (int, bool) {
	last := len(r.refs) - 1
	if last < 0 {
		return 0, false
	}
	ref := r.refs[last]
	r.refs = r.refs[:last]
	return ref, true
}
