package model

// Ref is a ref, as tests see it; a number they see as an int.
type Ref int

// Values is all values that a machine keeps: of frames from the bottom up, locals ahead of the stack, then statics, then
// objects' words.
func (m *Machine) Values() []any {
	var all []any
	see := func(values []value) {
		for _, v := range values {
			if v.isRef {
				all = append(all, Ref(v.word))
			} else {
				all = append(all, int(v.word))
			}
		}
	}
	for _, t := range m.threads {
		for _, f := range t.items {
			see(f.locals)
			see(f.items)
		}
	}
	for _, statics := range m.statics {
		see(statics)
	}
	for _, o := range m.objects {
		see(o.words)
	}
	return all
}
