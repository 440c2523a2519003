package model_test

import (
	"slices"

	"gneiss/api"
	"gneiss/arith"
	"gneiss/model"
)

// plain does the chapter's words one by one, with things that name one another by pointers; of the project it asks
// nothing but layer 1.
type plain struct {
	p       api.Program
	most    int
	things  []*thing
	statics [][]any
	strands []*strand
	queue   []*thing
	inputs  []int
	out     []int
}

// A thing is an object; words are ints, or things (nil for null).
type thing struct {
	number int
	class  int
	words  []any
	queued bool
	owner  *strand
	deep   int
	rest   []*strand // who waits for its monitor, the longest first
}

// A strand is a thread.
type strand struct {
	number int
	me     *thing
	state  int
	calls  []*call
	of     *thing // what it enters or waits for, or joins
	was    int    // how deep it owned what it waits for
	back   bool   // whether it comes from a wait
}

type call struct {
	class, method, at int
	locals, stack     []any
}

func newPlain(p api.Program, most int, inputs []int) *plain {
	m := &plain{p: p, most: most, inputs: inputs}
	for class := 2; class <= 8; class++ {
		m.make(class)
	}
	main, finalizer := m.make(9), m.make(9)
	for _, c := range p.Classes {
		m.statics = append(m.statics, zeros(c.Statics))
	}
	m.strands = []*strand{{me: main, calls: []*call{m.calling(p.Main, 0)}}, {number: 1, me: finalizer, state: 4}}
	return m
}

func zeros(fields []api.Field) []any {
	var all []any
	for _, f := range fields {
		if f.Type == 1 {
			all = append(all, 0)
		} else {
			all = append(all, (*thing)(nil))
		}
	}
	return all
}

func (m *plain) make(class int, words ...any) *thing {
	x := &thing{number: len(m.things) + 1, class: class, words: words}
	m.things = append(m.things, x)
	return x
}

// methods of a class; ClassThread has one that does nothing.
func (m *plain) methods(class int) []api.Method {
	if class == 9 {
		return []api.Method{{Name: "run"}}
	}
	if class < 11 {
		return nil
	}
	return m.p.Classes[class-11].Methods
}

func (m *plain) super(class int) int {
	switch {
	case class >= 11:
		return m.p.Classes[class-11].Super
	case class >= 2 && class <= 8:
		return 1
	}
	return 0
}

// is goes up by Super and by all Faces; no program of these tests has Faces that lead back to one another.
func (m *plain) is(class, other int) bool {
	if class == other {
		return true
	}
	if class >= 11 {
		for _, face := range m.p.Classes[class-11].Faces {
			if m.is(face, other) {
				return true
			}
		}
	}
	return class != 0 && m.is(m.super(class), other)
}

func (m *plain) isFinal(class int) bool {
	for ; class >= 11; class = m.super(class) {
		if m.p.Classes[class-11].Final {
			return true
		}
	}
	return false
}

// allFields is a class's fields, its super's first.
func (m *plain) allFields(class int) []api.Field {
	if class < 11 {
		return nil
	}
	return slices.Concat(m.allFields(m.super(class)), m.p.Classes[class-11].Fields)
}

// find is the method that is run: the nearest one that is not Static of that signature, going up.
func (m *plain) find(class int, name string, args []int, ret int) (int, int) {
	for {
		for number, x := range m.methods(class) {
			if !x.Static && x.Name == name && x.Ret == ret && slices.Equal(x.Args, args) {
				return class, number
			}
		}
		class = m.super(class)
	}
}

func (m *plain) calling(class, method int, given ...any) *call {
	c := &call{class: class, method: method, locals: slices.Clone(given)}
	for len(c.locals) < m.methods(class)[method].Locals {
		c.locals = append(c.locals, 0)
	}
	return c
}

func (m *plain) strandOf(x *thing) *strand {
	for _, s := range m.strands {
		if s.me == x {
			return s
		}
	}
	return nil
}

func (m *plain) running(x *thing) bool {
	s := m.strandOf(x)
	return s != nil && s.state != 5 && s.state != 6
}

func (s *strand) top() *call {
	return s.calls[len(s.calls)-1]
}

func (m *plain) ins(c *call) api.Ins {
	return m.methods(c.class)[c.method].Code[c.at]
}

func (m *plain) May(thread int) (bool, bool) {
	if thread < 0 || thread >= len(m.strands) {
		return false, false
	}
	s := m.strands[thread]
	switch s.state {
	case 0:
		op := m.ins(s.top()).Op
		return true, op == 14 || op == 19 || op == 20 || op == 44
	case 1:
		return s.of.owner == nil || s.of.owner == s, false
	case 3:
		return !m.running(s.of), false
	case 4:
		return len(m.queue) > 0, false
	}
	return false, false
}

func (m *plain) Step(thread int, fail bool) api.Errno {
	may, makes := m.May(thread)
	if !may {
		return api.ErrModelThread
	}
	if fail && !makes {
		return api.ErrModelForm
	}
	s := m.strands[thread]
	if s.state == 4 {
		x := m.queue[0]
		m.queue = m.queue[1:]
		class, method := m.find(x.class, "finalize", nil, 0)
		s.state, s.calls = 0, []*call{m.calling(class, method, x)}
		return api.OK
	}
	if s.back {
		s.back, s.state = false, 0
		s.of.owner, s.of.deep = s, s.was
		s.top().at++
		return api.OK
	}
	s.state = 0
	if x := m.tries(s, fail); x != nil {
		m.throw(s, x)
	}
	return api.OK
}

// tries does an instruction; what it throws is a panic there.
func (m *plain) tries(s *strand, fail bool) (thrown *thing) {
	defer func() {
		switch x := recover().(type) {
		case nil:
		case *thing:
			thrown = x
		default:
			panic(x)
		}
	}()
	m.do(s, s.top(), m.ins(s.top()), fail)
	return nil
}

func (m *plain) throw(s *strand, x *thing) {
	for len(s.calls) > 0 {
		c := s.top()
		for _, h := range m.methods(c.class)[c.method].Table {
			if c.at >= h.From && c.at < h.To && m.is(x.class, h.Class) {
				c.stack, c.at = []any{x}, h.At
				return
			}
		}
		s.calls = s.calls[:len(s.calls)-1]
	}
	m.over(s, 6)
}

func (m *plain) over(s *strand, state int) {
	s.state = state
	if s.number == 1 {
		s.state = 4
	}
	for _, x := range m.things {
		if x.owner == s {
			x.owner, x.deep = nil, 0
		}
	}
}

// faults throws the machine's own object of a class, if so.
func (m *plain) faults(is bool, class int) {
	if is {
		panic(m.things[class-2])
	}
}

func (c *call) push(x any) {
	c.stack = append(c.stack, x)
}

func (c *call) pop() any {
	x := c.stack[len(c.stack)-1]
	c.stack = c.stack[:len(c.stack)-1]
	return x
}

func (c *call) number() int {
	return c.pop().(int)
}

func (c *call) ref() *thing {
	return c.pop().(*thing)
}

// object is a ref that must not be null.
func (m *plain) object(c *call) *thing {
	x := c.ref()
	m.faults(x == nil, api.ClassNullFault)
	return x
}

func (m *plain) do(s *strand, c *call, i api.Ins, fail bool) {
	switch {
	case i.Op <= api.InsIfNull:
		m.doStack(c, i)
	case i.Op <= api.InsGetRef+1:
		m.doThings(c, i, fail)
	case i.Op <= api.InsThrow:
		m.doCalls(s, c, i)
	case i.Op == api.InsMakeWeak || i.Op == api.InsDeref || i.Op == api.InsIs || i.Op == api.InsCast:
		m.doRefs(c, i, fail)
	default:
		m.doThreads(s, c, i)
	}
}

func (m *plain) doStack(c *call, i api.Ins) {
	at := c.at + 1
	jump := func(is bool) {
		if is {
			at = i.A
		}
	}
	switch i.Op {
	case api.InsInt:
		c.push(i.A)
	case api.InsNull:
		c.push((*thing)(nil))
	case api.InsLoad:
		c.push(c.locals[i.A])
	case api.InsStore:
		c.locals[i.A] = c.pop()
	case api.InsPop:
		c.pop()
	case api.InsDup:
		c.push(c.stack[len(c.stack)-1])
	case api.InsSwap:
		n := len(c.stack)
		c.stack[n-1], c.stack[n-2] = c.stack[n-2], c.stack[n-1]
	case api.InsArith:
		a, b := 0, 0
		if i.A != api.ArithNeg {
			b = c.number()
		}
		a = c.number()
		x, is := arith.Do(i.A, a, b)
		m.faults(!is, api.ClassArithFault)
		c.push(x)
	case api.InsGoto:
		jump(true)
	case api.InsIfZero:
		jump(c.number() == 0)
	case api.InsIfLess:
		second := c.number()
		jump(c.number() < second)
	case api.InsIfSame:
		second := c.ref()
		jump(c.ref() == second)
	case api.InsIfNull:
		jump(c.ref() == nil)
	}
	c.at = at
}

// place is where a class's own field stands among all its fields.
func (m *plain) place(i api.Ins) int {
	return len(m.allFields(m.super(i.A))) + i.B
}

func (m *plain) doThings(c *call, i api.Ins, fail bool) {
	switch i.Op {
	case api.InsNew:
		m.faults(fail, api.ClassMemoryFault)
		c.push(m.make(i.A, zeros(m.allFields(i.A))...))
	case api.InsNewInts, api.InsNewRefs:
		n := c.number()
		m.faults(n < 0 || n > 1000, api.ClassSizeFault)
		m.faults(fail, api.ClassMemoryFault)
		first := any(0)
		if i.Op == api.InsNewRefs {
			first = (*thing)(nil)
		}
		c.push(m.make(0, slices.Repeat([]any{first}, n)...))
	case api.InsGetField:
		c.push(m.object(c).words[m.place(i)])
	case api.InsPutField:
		x := c.pop()
		m.object(c).words[m.place(i)] = x
	case api.InsGetStatic:
		c.push(m.statics[i.A-11][i.B])
	case api.InsPutStatic:
		m.statics[i.A-11][i.B] = c.pop()
	case api.InsLength:
		c.push(len(m.object(c).words))
	case api.InsGetInt, api.InsGetRef:
		n := c.number()
		x := m.object(c)
		m.faults(n < 0 || n >= len(x.words), api.ClassBoundsFault)
		c.push(x.words[n])
	case api.InsPutInt, api.InsPutRef:
		y := c.pop()
		n := c.number()
		x := m.object(c)
		m.faults(n < 0 || n >= len(x.words), api.ClassBoundsFault)
		x.words[n] = y
	}
	c.at++
}

func (m *plain) doCalls(s *strand, c *call, i api.Ins) {
	switch i.Op {
	case api.InsThrow:
		panic(m.object(c))
	case api.InsReturn, api.InsGiveInt, api.InsGiveRef:
		s.calls = s.calls[:len(s.calls)-1]
		if len(s.calls) == 0 {
			m.over(s, 5)
			return
		}
		if i.Op != api.InsReturn {
			s.top().push(c.pop())
		}
		s.top().at++
		return
	}
	called := m.methods(i.A)[i.B]
	given := slices.Clone(c.stack[len(c.stack)-len(called.Args):])
	c.stack = c.stack[:len(c.stack)-len(called.Args)]
	class, method := i.A, i.B
	if i.Op != api.InsCallStatic {
		x := m.object(c)
		m.faults(i.Op == api.InsCallFace && !m.is(x.class, i.A), api.ClassCastFault)
		class, method = m.find(x.class, called.Name, called.Args, called.Ret)
		given = slices.Concat([]any{x}, given)
	}
	if class == 9 {
		c.at++
		return
	}
	m.faults(len(s.calls)+1 > 24, api.ClassMemoryFault)
	s.calls = append(s.calls, m.calling(class, method, given...))
}

func (m *plain) doRefs(c *call, i api.Ins, fail bool) {
	switch i.Op {
	case api.InsMakeWeak:
		x := m.object(c)
		m.faults(fail, api.ClassMemoryFault)
		c.push(m.make(10, x))
	case api.InsDeref:
		c.push(m.object(c).words[0])
	case api.InsIs:
		x := c.ref()
		if x != nil && m.is(x.class, i.A) {
			c.push(1)
		} else {
			c.push(0)
		}
	case api.InsCast:
		x := c.ref()
		m.faults(x != nil && !m.is(x.class, i.A), api.ClassCastFault)
		c.push(x)
	}
	c.at++
}

func (m *plain) doThreads(s *strand, c *call, i api.Ins) {
	switch i.Op {
	case api.InsPrint:
		m.out = append(m.out, c.number())
	case api.InsRead:
		x := 0
		if len(m.inputs) > 0 {
			x, m.inputs = m.inputs[0]&0xffffffff, m.inputs[1:]
		}
		if x > 0x7fffffff {
			x -= 0x100000000
		}
		c.push(x)
	case api.InsStart:
		x := m.object(c)
		m.faults(m.strandOf(x) != nil, api.ClassMonitorFault)
		m.faults(len(m.strands) >= m.most, api.ClassMemoryFault)
		class, method := m.find(x.class, "run", nil, 0)
		next := &strand{number: len(m.strands), me: x, state: 5}
		if class != 9 {
			next.state, next.calls = 0, []*call{m.calling(class, method, x)}
		}
		m.strands = append(m.strands, next)
	case api.InsJoin:
		x := m.object(c)
		if m.running(x) {
			c.push(x)
			s.of, s.state = x, 3
			return
		}
	case api.InsEnter, api.InsLeave, api.InsWait, api.InsNotify, api.InsNotifyAll:
		m.doMonitor(s, c, i.Op)
		return
	}
	c.at++
}

func (m *plain) doMonitor(s *strand, c *call, op int) {
	x := m.object(c)
	if op == api.InsEnter {
		if x.owner != nil && x.owner != s {
			c.push(x)
			s.of, s.state = x, 1
			return
		}
		m.faults(x.deep == 1000, api.ClassMonitorFault)
		x.owner, x.deep = s, x.deep+1
		c.at++
		return
	}
	m.faults(x.owner != s, api.ClassMonitorFault)
	switch op {
	case api.InsLeave:
		if x.deep--; x.deep == 0 {
			x.owner = nil
		}
	case api.InsWait:
		s.of, s.was, s.state = x, x.deep, 2
		x.owner, x.deep = nil, 0
		x.rest = append(x.rest, s)
		return
	default:
		count := min(1, len(x.rest))
		if op == api.InsNotifyAll {
			count = len(x.rest)
		}
		for _, other := range x.rest[:count] {
			other.state, other.back = 1, true
		}
		x.rest = x.rest[count:]
	}
	c.at++
}

func (m *plain) Threads() []api.Thread {
	var all []api.Thread
	for _, s := range m.strands {
		x := api.Thread{State: s.state, Frames: len(s.calls)}
		if len(s.calls) > 0 {
			x.Class, x.Method, x.At = s.top().class, s.top().method, s.top().at
		}
		all = append(all, x)
	}
	return all
}

func (m *plain) Out() []int {
	return m.out
}

// Values is what model's is of its machines.
func (m *plain) Values() []any {
	var all []any
	see := func(values []any) {
		for _, v := range values {
			if x, is := v.(*thing); is {
				v = x.ref()
			}
			all = append(all, v)
		}
	}
	for _, s := range m.strands {
		for _, c := range s.calls {
			see(c.locals)
			see(c.stack)
		}
	}
	for _, statics := range m.statics {
		see(statics)
	}
	for _, x := range m.things {
		see(x.words)
	}
	return all
}

func (x *thing) ref() model.Ref {
	if x == nil {
		return 0
	}
	return model.Ref(x.number)
}

func (m *plain) Objects() int {
	return len(m.things)
}

func (m *plain) Field(obj, i int) (int, bool) {
	if obj < 1 || obj > len(m.things) || i < 0 || i >= len(m.things[obj-1].words) {
		return 0, false
	}
	switch x := m.things[obj-1].words[i].(type) {
	case int:
		return x, true
	case *thing:
		if x != nil {
			return x.number, true
		}
	}
	return 0, true
}

func (m *plain) Clear(obj int) api.Errno {
	if obj < 1 || obj > len(m.things) {
		return api.ErrModelForm
	}
	for _, x := range m.things {
		if x.class == 10 && x.words[0] == any(m.things[obj-1]) {
			x.words[0] = (*thing)(nil)
		}
	}
	return api.OK
}

func (m *plain) Queue(obj int) api.Errno {
	if obj < 1 || obj > len(m.things) || !m.isFinal(m.things[obj-1].class) || m.things[obj-1].queued {
		return api.ErrModelForm
	}
	m.things[obj-1].queued = true
	m.queue = append(m.queue, m.things[obj-1])
	return api.OK
}

// numbers is those of the things among values, each once, rising.
func numbers(values []any) []int {
	var all []int
	for _, v := range values {
		if x, is := v.(*thing); is && x != nil {
			all = append(all, x.number)
		}
	}
	slices.Sort(all)
	return slices.Compact(all)
}

// Roots is what is held whatever the things name, each once, rising.
func (m *plain) Roots() []int {
	var held []any
	for _, x := range m.things[:min(7, len(m.things))] {
		held = append(held, x)
	}
	for _, s := range m.strands {
		if s.state == 5 || s.state == 6 {
			continue
		}
		held = append(held, s.me)
		for _, c := range s.calls {
			held = slices.Concat(held, c.locals, c.stack)
		}
		if s.state == 1 || s.state == 2 || s.state == 3 {
			held = append(held, s.of)
		}
	}
	for _, x := range m.queue {
		held = append(held, x)
	}
	return numbers(slices.Concat(held, slices.Concat(m.statics...)))
}

// Named is what a thing's words name and hold, each once, rising.
func (m *plain) Named(obj int) []int {
	if obj < 1 || obj > len(m.things) || m.things[obj-1].class == 10 {
		return nil
	}
	return numbers(m.things[obj-1].words)
}

func (m *plain) HasWeak(obj int) bool {
	return slices.ContainsFunc(m.things, func(x *thing) bool {
		return x.class == 10 && slices.Equal(numbers(x.words), []int{obj})
	})
}

func (m *plain) IsFinal(obj int) bool {
	return obj >= 1 && obj <= len(m.things) && m.isFinal(m.things[obj-1].class)
}

func (m *plain) WasQueued(obj int) bool {
	return obj >= 1 && obj <= len(m.things) && m.things[obj-1].queued
}
