package model_test

import (
	"testing"

	"gneiss/api"
	"gneiss/load"
	"gneiss/types"
	"gneiss/verify"
)

// random is a fixed row of numbers.
type random uint64

func (r *random) next(n int) int {
	*r = *r*6364136223846793005 + 1442695040888963407
	return int(uint64(*r) >> 33 % uint64(n))
}

func (r *random) once(n int) bool {
	return r.next(n) == 0
}

func pick[T any](r *random, items ...T) T {
	return items[r.next(len(items))]
}

// The classes of a written program.
const (
	mainClass = 11 + iota
	shaped    // a Face
	rounded   // a Face that is shaped
	shape     // is shaped
	round     // below shape, is rounded
	trouble   // a throwable
	deeper    // below trouble
	worker    // a thread
	helper    // below worker, without a run of its own
	idler     // a thread without a run of its own, and a Face's
	file      // Final
	log       // below file, with a finalize of its own
	runs      // a Face that has run
	behindAll
)

func typeOf(class int) int {
	return api.TypeClass + class
}

// lockStatics is where, behind mainClass's statics of all types, those are that main alone puts.
const lockStatics = 9

// skeleton has methods of all kinds without instructions.
func skeleton() api.Program {
	object := typeOf(api.ClassObject)
	statics := []api.Field{{Name: "i", Type: api.TypeInt}, {Name: "n", Type: api.TypeInts}, {Name: "r", Type: api.TypeRefs},
		{Name: "o", Type: object}, {Name: "s", Type: typeOf(shape)}, {Name: "f", Type: typeOf(shaped)},
		{Name: "w", Type: typeOf(api.ClassWeak)}, {Name: "t", Type: typeOf(api.ClassThread)},
		{Name: "e", Type: typeOf(trouble)}, {Name: "l", Type: object}, {Name: "k", Type: object}}
	fields := []api.Field{{Name: "i", Type: api.TypeInt}, {Name: "o", Type: object}, {Name: "s", Type: typeOf(shape)}}
	of := func(name string, ret int, args ...int) api.Method {
		return api.Method{Name: name, Ret: ret, Args: args, Locals: 1 + len(args)}
	}
	static := func(m api.Method) api.Method { m.Static = true; return m }
	shapedOnes := []api.Method{of("size", api.TypeInt), of("with", typeOf(shape), api.TypeInt, object)}
	roundedOnes := []api.Method{of("turn", 0, typeOf(shaped))}
	return api.Program{Main: mainClass, Classes: []api.Class{
		{Name: "M", Statics: statics, Methods: []api.Method{static(of("main", 0)),
			static(of("sum", api.TypeInt, api.TypeInt, api.TypeInt)),
			static(of("find", object, typeOf(shape), api.TypeRefs)), static(of("loop", 0))}},
		{Name: "Shaped", Face: true, Methods: shapedOnes},
		{Name: "Rounded", Face: true, Faces: []int{shaped}, Methods: roundedOnes},
		{Name: "Shape", Faces: []int{shaped}, Fields: fields, Methods: append([]api.Method{of("own", api.TypeInts)},
			shapedOnes...)},
		{Name: "Round", Super: shape, Faces: []int{rounded}, Fields: fields[:2],
			Statics: fields[1:], Methods: append([]api.Method{static(of("own", api.TypeInts)), shapedOnes[0]}, roundedOnes...)},
		{Name: "Trouble", Super: api.ClassThrowable, Fields: fields[:1]},
		{Name: "Deeper", Super: trouble},
		{Name: "Worker", Super: api.ClassThread, Fields: fields, Methods: []api.Method{of("run", 0), of("run", api.TypeInt)}},
		{Name: "Helper", Super: worker, Fields: fields},
		{Name: "Idler", Super: api.ClassThread, Faces: []int{runs}, Methods: []api.Method{of("run", 0, api.TypeInt)}},
		{Name: "File", Final: true, Fields: fields, Methods: []api.Method{of("finalize", 0), of("finalize", 0, api.TypeInt)}},
		{Name: "Log", Super: file, Methods: []api.Method{of("finalize", 0)}},
		{Name: "Runs", Face: true, Methods: []api.Method{of("run", 0)}},
	}}
}

// written is a program that is taken, whose methods do this and that.
func written(t *testing.T, r *random) api.Program {
	t.Helper()
	p := skeleton()
	ls, class, e := load.Load(p)
	if e != api.OK {
		t.Fatalf("class %d: %d", class, e)
	}
	for i, c := range p.Classes {
		for j := range c.Methods {
			if !c.Face {
				m := &c.Methods[j]
				w := &writer{r: r, p: p, ls: ls, m: m, class: 11 + i}
				w.method(i == 0 && j == 0)
			}
		}
	}
	if class, method, at, e := verify.Program(p, ls); e != api.OK {
		t.Fatalf("%d, %d, %d: %d: %+v", class, method, at, e, p.Classes[class-11].Methods[method])
	}
	return p
}

// A writer writes a method in blocks. At each block's beginning the locals have the types that they have throughout, and
// the stack is empty, or holds what is caught there.
type writer struct {
	r      *random
	p      api.Program
	ls     []api.Layout
	class  int
	m      *api.Method
	locals []int
	caught []int // by block: the class that is caught there; 0 of none
	places []int // by block
	jumps  []int // places of instructions whose A is still a block's number
}

func (w *writer) put(op int, operands ...int) {
	i := api.Ins{Op: op}
	if len(operands) > 0 {
		i.A = operands[0]
	}
	if len(operands) > 1 {
		i.B = operands[1]
	}
	w.m.Code = append(w.m.Code, i)
}

func (w *writer) anyType() int {
	return pick(w.r, api.TypeInt, api.TypeInt, api.TypeInts, api.TypeRefs, typeOf(api.ClassObject), typeOf(shape), typeOf(shaped),
		typeOf(rounded), typeOf(round), typeOf(api.ClassWeak), typeOf(trouble), typeOf(worker), typeOf(api.ClassThread),
		typeOf(file), typeOf(api.ClassThrowable), typeOf(runs))
}

func (w *writer) method(isMain bool) {
	if !w.m.Static {
		w.locals = append(w.locals, typeOf(w.class))
	}
	w.locals = append(w.locals, w.m.Args...)
	given := len(w.locals)
	for range 2 + w.r.next(5) {
		w.locals = append(w.locals, w.anyType())
	}
	w.m.Locals, w.m.Stack = len(w.locals), api.MaxStack
	for local := given; local < len(w.locals); local++ {
		w.simple(w.locals[local])
		w.put(api.InsStore, local)
	}
	if isMain {
		w.begin()
	}
	begin := len(w.m.Code)
	w.caught = append(make([]int, 1+w.r.next(4)), pick(w.r, 1, 1, 2, trouble, deeper), api.ClassThrowable)
	for block := range w.caught {
		w.block(block)
	}
	for _, at := range w.jumps {
		w.m.Code[at].A = w.places[w.m.Code[at].A]
	}
	w.handlers(begin)
}

// begin makes what is in the statics, and starts threads.
func (w *writer) begin() {
	for at, f := range w.p.Classes[0].Statics {
		if at >= lockStatics {
			w.put(api.InsNew, api.ClassObject)
		} else {
			w.simple(f.Type)
		}
		w.put(api.InsPutStatic, mainClass, at)
	}
	for range 1 + w.r.next(3) {
		w.put(api.InsNew, pick(w.r, worker, worker, helper))
		w.put(api.InsDup)
		w.put(api.InsPutStatic, mainClass, 7)
		w.put(api.InsStart)
	}
}

func (w *writer) handlers(begin int) {
	end := len(w.m.Code)
	for block, class := range w.caught {
		if class == 0 {
			continue
		}
		from := begin + w.r.next(end-begin)
		to := from + 1 + w.r.next(end-from)
		if !w.r.once(6) {
			from, to = begin, end
		}
		w.m.Table = append(w.m.Table, api.Handler{From: from, To: to, At: w.places[block], Class: class})
	}
}

func (w *writer) block(block int) {
	at := len(w.m.Code)
	w.places = append(w.places, at)
	var stack []int
	if class := w.caught[block]; class != 0 {
		stack = []int{typeOf(class)}
	}
	w.m.Maps = append(w.m.Maps, api.Map{At: at, Locals: w.locals, Stack: stack})
	if stack != nil {
		w.catch()
	}
	for range 1 + w.r.next(5) {
		w.statement()
	}
	isLast := block == len(w.caught)-1
	if isLast || w.caught[block+1] != 0 || w.r.once(3) {
		w.end()
	}
}

// catch takes what was caught off the stack.
func (w *writer) catch() {
	if w.r.once(2) {
		w.put(api.InsPop)
		return
	}
	w.put(api.InsIs, pick(w.r, 2, 3, 4, 5, 6, 7, 8, trouble))
	w.put(api.InsPrint)
}

// end is a last instruction, with what it asks for.
func (w *writer) end() {
	switch {
	case w.r.once(10):
		w.value(typeOf(api.ClassThrowable), 1)
		w.put(api.InsThrow)
	case w.r.next(12) < w.lasting():
		w.jump(api.InsGoto)
	case w.m.Ret == api.TypeNone:
		w.put(api.InsReturn)
	case w.m.Ret == api.TypeInt:
		w.value(api.TypeInt, 1)
		w.put(api.InsGiveInt)
	default:
		w.value(w.m.Ret, 1)
		w.put(api.InsGiveRef)
	}
}

// lasting is how many of 12 ends go on within the method: threads are to last for long, calls are not.
func (w *writer) lasting() int {
	if w.m.Name == "main" || w.m.Name == "run" {
		return 11
	}
	return 2
}

// jump goes to a block where nothing is caught.
func (w *writer) jump(op int) {
	w.jumps = append(w.jumps, len(w.m.Code))
	w.put(op, w.r.next(len(w.caught)-2))
}

// simple pushes a value of a type, in one or two instructions, mostly not null.
func (w *writer) simple(t int) {
	switch class := t - api.TypeClass; {
	case t == api.TypeInt:
		w.put(api.InsInt, pick(w.r, 0, 1, 2, 3, 5, -1, 7, -2147483648, 2147483647))
	case w.r.once(5):
		w.put(api.InsNull)
	case t == api.TypeInts, t == api.TypeRefs:
		w.put(api.InsInt, pick(w.r, 0, 1, 2, 3, 5, 5, 5, 9))
		w.put(api.InsNewInts + t - api.TypeInts)
	case class == api.ClassWeak:
		w.simple(typeOf(pick(w.r, api.ClassObject, shape, file, log)))
		w.put(api.InsMakeWeak)
	case class == api.ClassObject:
		w.put(api.InsNew, pick(w.r, api.ClassObject, shape, round, file, log, worker))
	case class == api.ClassThrowable:
		w.put(api.InsNew, pick(w.r, api.ClassThrowable, 2, 3, 4, 5, 6, 7, 8, trouble, deeper))
	case class == api.ClassThread:
		w.put(api.InsNew, pick(w.r, api.ClassThread, worker, helper, idler))
	default:
		w.put(api.InsNew, w.madeOf(class))
	}
}

// madeOf is a class whose objects fit another class; of a Face's now and then one whose objects do not.
func (w *writer) madeOf(class int) int {
	switch class {
	case shaped:
		return pick(w.r, shape, round, shape, round, shape, round, api.ClassObject)
	case rounded:
		return pick(w.r, round, round, round, shape)
	case runs:
		return pick(w.r, idler, idler, idler, worker)
	case shape:
		return pick(w.r, shape, round)
	case file:
		return pick(w.r, file, log)
	case worker:
		return pick(w.r, worker, helper)
	case trouble:
		return pick(w.r, trouble, deeper)
	}
	return class
}

// value pushes a value that fits a type, so deep at most.
func (w *writer) value(t int, deep int) {
	var fitting []func()
	for local, have := range w.locals {
		if types.Fits(w.ls, have, t) {
			fitting = append(fitting, func() { w.put(api.InsLoad, local) })
		}
	}
	for at, f := range w.p.Classes[0].Statics {
		if types.Fits(w.ls, f.Type, t) {
			fitting = append(fitting, func() { w.put(api.InsGetStatic, mainClass, at) })
		}
	}
	switch {
	case len(fitting) > 0 && !w.r.once(3):
		fitting[w.r.next(len(fitting))]()
	case deep <= 0 || w.r.once(3):
		w.simple(t)
	case t == api.TypeInt:
		w.number(deep - 1)
	default:
		w.ref(t, deep-1)
	}
}

func (w *writer) number(deep int) {
	switch w.r.next(9) {
	case 0, 1:
		op := w.r.next(12)
		w.value(api.TypeInt, deep)
		if op != api.ArithNeg {
			w.value(api.TypeInt, deep)
		}
		w.put(api.InsArith, op)
	case 2:
		w.put(api.InsRead)
	case 3:
		w.value(pick(w.r, api.TypeInts, api.TypeRefs), deep)
		w.put(api.InsLength)
	case 4:
		w.value(w.anyRef(), deep)
		w.put(api.InsIs, w.r.next(behindAll))
	case 5:
		w.value(api.TypeInts, deep)
		w.index(deep)
		w.put(api.InsGetInt)
	case 6:
		w.value(typeOf(shape), deep)
		w.put(api.InsGetField, shape, 0)
	default:
		w.value(api.TypeInt, deep)
		w.value(api.TypeInt, deep)
		w.put(api.InsCallStatic, mainClass, 1)
	}
}

// index is mostly one of a place that short arrays have.
func (w *writer) index(deep int) {
	if w.r.once(3) {
		w.value(api.TypeInt, deep)
	} else {
		w.put(api.InsInt, w.r.next(4))
	}
}

func (w *writer) ref(t int, deep int) {
	class := t - api.TypeClass
	switch {
	case t == api.TypeInts || t == api.TypeRefs:
		if w.r.once(3) {
			w.value(api.TypeInt, deep)
		} else {
			w.put(api.InsInt, pick(w.r, 0, 1, 3, 1000, 1001, -1))
		}
		w.put(api.InsNewInts + t - api.TypeInts)
	case class == api.ClassWeak:
		w.value(w.anyRef(), deep)
		w.put(api.InsMakeWeak)
	case class == shape && w.r.once(2):
		w.value(typeOf(shaped), deep)
		w.value(api.TypeInt, deep)
		w.value(typeOf(api.ClassObject), deep)
		w.put(api.InsCallFace, shaped, 1)
	default:
		w.object(deep)
		if class != api.ClassObject {
			w.put(api.InsCast, class)
		}
	}
}

func (w *writer) object(deep int) {
	switch w.r.next(5) {
	case 0:
		w.value(typeOf(api.ClassWeak), deep)
		w.put(api.InsDeref)
	case 1:
		w.value(api.TypeRefs, deep)
		w.index(deep)
		w.put(api.InsGetRef)
	case 2:
		w.value(typeOf(round), deep)
		w.put(api.InsGetField, round, 1)
	case 3:
		w.value(typeOf(shape), deep)
		w.value(api.TypeRefs, deep)
		w.put(api.InsCallStatic, mainClass, 2)
	default:
		w.value(w.anyRef(), deep)
	}
}

func (w *writer) anyRef() int {
	for {
		if t := w.anyType(); types.Ref(t) {
			return t
		}
	}
}

func (w *writer) statement() {
	switch w.r.next(16) {
	case 0, 1:
		local := w.r.next(len(w.locals))
		w.value(w.locals[local], 3)
		w.put(api.InsStore, local)
	case 2:
		at := w.r.next(lockStatics)
		w.value(w.p.Classes[0].Statics[at].Type, 3)
		w.put(api.InsPutStatic, mainClass, at)
	case 3:
		w.putField()
	case 4:
		w.putElement()
	case 5, 6:
		w.value(api.TypeInt, 3)
		w.put(api.InsPrint)
	case 7:
		w.shuffle()
	case 8, 9:
		w.call()
	case 10, 11:
		w.branch()
	case 12, 13:
		w.locked()
	case 14:
		w.oddMonitor()
	default:
		w.value(typeOf(pick(w.r, api.ClassThread, worker)), 2)
		w.put(pick(w.r, api.InsStart, api.InsStart, api.InsJoin))
	}
}

func (w *writer) putField() {
	class := pick(w.r, shape, round, worker, helper, file, trouble)
	fields := w.p.Classes[class-11].Fields
	at := w.r.next(len(fields))
	w.value(typeOf(class), 2)
	w.value(fields[at].Type, 2)
	w.put(api.InsPutField, class, at)
}

func (w *writer) putElement() {
	if w.r.once(2) {
		w.value(api.TypeInts, 2)
		w.index(2)
		w.value(api.TypeInt, 2)
		w.put(api.InsPutInt)
		return
	}
	w.value(api.TypeRefs, 2)
	w.index(2)
	w.value(w.anyRef(), 2)
	w.put(api.InsPutRef)
}

func (w *writer) shuffle() {
	w.value(w.anyType(), 2)
	w.value(w.anyType(), 2)
	w.put(api.InsSwap)
	w.put(pick(w.r, api.InsNop, api.InsCollect))
	w.put(api.InsDup)
	w.put(api.InsPop)
	w.put(api.InsPop)
	w.put(api.InsPop)
}

func (w *writer) call() {
	const static, virtual, face = api.InsCallStatic, api.InsCallVirtual, api.InsCallFace
	one := pick(w.r, api.Ins{Op: virtual, A: shape}, api.Ins{Op: virtual, A: shape, B: 1}, api.Ins{Op: virtual, A: round, B: 2},
		api.Ins{Op: virtual, A: worker}, api.Ins{Op: virtual, A: worker, B: 1}, api.Ins{Op: virtual, A: api.ClassThread},
		api.Ins{Op: virtual, A: file}, api.Ins{Op: face, A: shaped}, api.Ins{Op: face, A: rounded}, api.Ins{Op: face, A: runs},
		api.Ins{Op: static, A: mainClass, B: 3}, api.Ins{Op: static, A: round})
	m := api.Method{Name: "run"}
	if one.A != 9 {
		m = w.p.Classes[one.A-11].Methods[one.B]
	}
	if !m.Static {
		w.value(typeOf(one.A), 2)
	}
	for _, arg := range m.Args {
		w.value(arg, 2)
	}
	w.put(one.Op, one.A, one.B)
	if m.Ret != api.TypeNone {
		w.put(api.InsPop)
	}
}

func (w *writer) branch() {
	switch w.r.next(4) {
	case 0:
		w.value(api.TypeInt, 2)
		w.jump(api.InsIfZero)
	case 1:
		w.value(api.TypeInt, 2)
		w.value(api.TypeInt, 2)
		w.jump(api.InsIfLess)
	case 2:
		t := w.anyRef()
		w.value(t, 1)
		w.value(pick(w.r, t, w.anyRef()), 1)
		w.jump(api.InsIfSame)
	default:
		w.value(w.anyRef(), 2)
		w.jump(api.InsIfNull)
	}
}

// locked owns a lock, and waits or notifies.
func (w *writer) locked() {
	lock := pick(w.r, lockStatics, lockStatics+1)
	on := func(op int) {
		w.put(api.InsGetStatic, mainClass, lock)
		w.put(op)
	}
	deep := 1 + w.r.next(2)
	for range deep {
		on(api.InsEnter)
	}
	for range w.r.next(3) {
		on(pick(w.r, api.InsWait, api.InsNotify, api.InsNotify, api.InsNotifyAll))
	}
	for range deep {
		on(api.InsLeave)
	}
}

func (w *writer) oddMonitor() {
	w.value(w.anyRef(), 1)
	w.put(pick(w.r, api.InsEnter, api.InsEnter, api.InsLeave, api.InsWait, api.InsNotify, api.InsNotifyAll))
}
