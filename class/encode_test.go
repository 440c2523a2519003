package class_test

import (
	"math"
	"reflect"
	"slices"
	"strings"
	"testing"

	"gneiss/api"
	"gneiss/class"
)

func TestP14_2Bytes(t *testing.T) {
	wantBytes(t, api.Program{}, "GNSS\x00\x00")
	wantBytes(t, api.Program{Main: -7, Classes: []api.Class{}}, "GNSS\x0d\x00")
	wantBytes(t, api.Program{Main: least}, "GNSS\xff\xff\xff\xff\x0f\x00")
	wantBytes(t, api.Program{Main: 64, Classes: []api.Class{{Name: "A", Face: true, Super: -2}}},
		"GNSS\x80\x01\x02\x02A\x02\x03\x00\x00\x00\x00")
	wantBytes(t, api.Program{Classes: []api.Class{{Name: "A", Final: true, Methods: []api.Method{{
		Name: "m", Static: true, Args: []int{1}, Ret: 2, Locals: 3, Stack: 4, Code: []api.Ins{{Op: 5, A: 6, B: 7}},
		Table: []api.Handler{{From: 8, To: 9, At: 10, Class: 11}},
		Maps:  []api.Map{{At: 12, Locals: []int{13}, Stack: []int{14}}},
	}}}}}, "GNSS\x00\x02\x02A\x04\x00\x00\x00\x00\x02\x02m\x02\x02\x02\x04\x06\x08\x02\x0a\x0c\x0e\x02\x10\x12\x14\x16"+
		"\x02\x18\x02\x1a\x02\x1c")
	s, _ := spell(full())
	wantBytes(t, full(), s)
	r := row(2)
	for range 1000 {
		p := r.program()
		s, _ := spell(p)
		wantBytes(t, p, s)
	}
}

// A turn makes some list of a class that is given n long, of items that are as they must be.
type turn func(c *api.Class, n int)

func fieldsOf(n int) []api.Field {
	return slices.Repeat([]api.Field{{Name: "f"}}, n)
}

// turns is a turn for each list with a limit, and that limit.
func turns() map[string]struct {
	most int
	turn turn
} {
	type row = struct {
		most int
		turn turn
	}
	return map[string]row{
		"Faces":   {8, func(c *api.Class, n int) { c.Faces = make([]int, n) }},
		"Fields":  {24, func(c *api.Class, n int) { c.Fields = fieldsOf(n) }},
		"Statics": {24, func(c *api.Class, n int) { c.Statics = fieldsOf(n) }},
		"Methods": {24, func(c *api.Class, n int) { c.Methods = slices.Repeat([]api.Method{{Name: "m"}}, n) }},
		"Args":    {8, func(c *api.Class, n int) { c.Methods[0].Args = make([]int, n) }},
		"Code":    {300, func(c *api.Class, n int) { c.Methods[1].Code = make([]api.Ins, n) }},
		"Table":   {16, func(c *api.Class, n int) { c.Methods[0].Table = make([]api.Handler, n) }},
		"Maps":    {64, func(c *api.Class, n int) { c.Methods[1].Maps = make([]api.Map, n) }},
		"Locals":  {24, func(c *api.Class, n int) { c.Methods[0].Maps[0].Locals = make([]int, n) }},
		"Stack":   {24, func(c *api.Class, n int) { c.Methods[0].Maps[2].Stack = make([]int, n) }},
	}
}

func TestP14_2AndP14_1CountsAtTheirLimits(t *testing.T) {
	for name, row := range turns() {
		for _, n := range []int{0, 1, row.most - 1, row.most} {
			p := full()
			row.turn(&p.Classes[0], n)
			s, _ := spell(p)
			wantBytes(t, p, s)
			wantProgram(t, s, p)
		}
		for _, n := range []int{row.most + 1, row.most + 2, 2 * row.most, 1000, 100000} {
			p := full()
			row.turn(&p.Classes[0], n)
			wantRefused(t, p, api.ErrClassMany)
			p.Classes = append(p.Classes[1:], p.Classes[0])
			wantRefused(t, p, api.ErrClassMany)
			if s, _ := spell(p); len(s) <= api.MaxBytes {
				if _, _, code := class.Decode(s); code != api.ErrClassMany {
					t.Errorf("%s: %d of %d are taken, or %d", name, n, row.most, code)
				}
			}
		}
	}
}

func TestP14_2AndP14_1HowManyClasses(t *testing.T) {
	for _, n := range []int{1, 39, 40} {
		p := api.Program{Classes: slices.Repeat([]api.Class{{Name: "A"}}, n)}
		s, _ := spell(p)
		wantBytes(t, p, s)
		wantProgram(t, s, p)
	}
	for _, n := range []int{41, 42, 80, 100000} {
		wantRefused(t, api.Program{Classes: make([]api.Class, n)}, api.ErrClassMany)
	}
	s, _ := spell(api.Program{Classes: slices.Repeat([]api.Class{{Name: "A"}}, 41)})
	wantFault(t, s, 5, api.ErrClassMany)
}

func TestP14_2Names(t *testing.T) {
	p := full()
	for _, place := range namesOf(&p) {
		was := *place
		for _, *place = range noNames() {
			wantRefused(t, p, api.ErrClassName)
		}
		for _, *place = range names() {
			s, _ := spell(p)
			wantBytes(t, p, s)
		}
		*place = strings.Repeat("a", 1<<24)
		wantRefused(t, p, api.ErrClassName)
		*place = was
	}
}

func TestP14_2Numbers(t *testing.T) {
	p := full()
	for _, place := range numbersOf(&p) {
		was := *place
		for _, *place = range []int{
			least - 1, most + 1, least - 2, most + 2, 1 << 32, 1<<32 + 1, -1 << 32, 1 << 40, math.MinInt, math.MaxInt,
		} {
			wantRefused(t, p, api.ErrClassForm)
		}
		for _, *place = range []int{least, most, -1, 0} {
			s, _ := spell(p)
			wantBytes(t, p, s)
		}
		*place = was
	}
	for _, place := range sizesOf(&p) {
		was := *place
		for _, *place = range []int{
			-1, 25, 26, -24, least, most, least - 1, most + 1, 1 << 32, 1<<32 + 1, math.MinInt, math.MaxInt,
		} {
			wantRefused(t, p, api.ErrClassForm)
		}
		for *place = range 25 {
			s, _ := spell(p)
			wantBytes(t, p, s)
		}
		*place = was
	}
}

// long is a program whose bytes are n in all.
func long(t *testing.T, n int) api.Program {
	t.Helper()
	p := api.Program{}
	for range 8 {
		c := api.Class{Name: "A"}
		for range 4 {
			c.Methods = append(c.Methods, api.Method{Name: "m", Code: make([]api.Ins, 300)})
		}
		p.Classes = append(p.Classes, c)
	}
	s, _ := spell(p)
	// A number of 8192 and more has two bytes more than 0 has.
	for _, place := range numbersOf(&p) {
		switch n - len(s) {
		case 0:
		case 1:
			*place, n = 64, n-1
		default:
			*place, n = 8192, n-2
		}
	}
	if n != len(s) {
		t.Fatalf("no program of that size: %d are missing", n-len(s))
	}
	return p
}

func TestP14_2AndP14_1ThePlaceWhereLongBegins(t *testing.T) {
	for _, n := range []int{api.MaxBytes - 2, api.MaxBytes - 1, api.MaxBytes} {
		p := long(t, n)
		s, _ := spell(p)
		if len(s) != n {
			t.Fatalf("%d bytes; want %d", len(s), n)
		}
		wantBytes(t, p, s)
		wantProgram(t, s, p)
	}
	for _, n := range []int{api.MaxBytes + 1, api.MaxBytes + 2, api.MaxBytes + 3, api.MaxBytes + 5000} {
		p := long(t, n)
		s, _ := spell(p)
		wantRefused(t, p, api.ErrClassLong)
		wantFault(t, s, 0, api.ErrClassLong)
	}
}

// greatest is a program in which each list is as long as it may be.
func greatest() api.Program {
	x := api.Map{At: 1, Locals: make([]int, 24), Stack: make([]int, 24)}
	m := api.Method{
		Name: "m", Args: make([]int, 8), Code: make([]api.Ins, 300), Table: make([]api.Handler, 16),
		Maps: slices.Repeat([]api.Map{x}, 64),
	}
	c := api.Class{
		Name: "A", Faces: make([]int, 8), Fields: fieldsOf(24), Statics: fieldsOf(24),
		Methods: slices.Repeat([]api.Method{m}, 24),
	}
	return api.Program{Classes: slices.Repeat([]api.Class{c}, 40)}
}

// lastMethod makes p's last method its own, so that the lists that others share stay as they are.
func lastMethod(p *api.Program) *api.Method {
	last := &p.Classes[len(p.Classes)-1]
	last.Methods = slices.Clone(last.Methods)
	m := &last.Methods[len(last.Methods)-1]
	m.Code = slices.Clone(m.Code)
	m.Maps = slices.Clone(m.Maps)
	return m
}

func TestP14_2TheErrorThatIsNamedFirst(t *testing.T) {
	p := greatest()
	wantRefused(t, p, api.ErrClassLong)
	m := lastMethod(&p)
	m.Maps[63].Stack = make([]int, 24)
	m.Maps[63].Stack[23] = most + 1
	wantRefused(t, p, api.ErrClassForm)
	m.Maps[63].Stack[23] = 0
	m.Stack = 25
	wantRefused(t, p, api.ErrClassForm)
	m.Name = "9"
	wantRefused(t, p, api.ErrClassName)
	m.Maps[63].Stack = make([]int, 25)
	wantRefused(t, p, api.ErrClassMany)
	p.Main = math.MinInt
	p.Classes[0].Name = ""
	wantRefused(t, p, api.ErrClassMany)
	m.Maps[63].Stack = nil
	wantRefused(t, p, api.ErrClassName)
	p.Classes[0].Name, m.Name = "A", "n"
	wantRefused(t, p, api.ErrClassForm)
	p.Main = 0
	wantRefused(t, p, api.ErrClassForm)
	m.Stack = 24
	wantRefused(t, p, api.ErrClassLong)
}

func TestP14_2NoFaultHidesBehindAnotherOfItsKind(t *testing.T) {
	for _, code := range []api.Errno{api.ErrClassMany, api.ErrClassName, api.ErrClassForm} {
		p := full()
		for i, c := range p.Classes {
			switch code {
			case api.ErrClassMany:
				c.Faces = make([]int, 9+i)
			case api.ErrClassName:
				c.Name = strings.Repeat("9", i)
			default:
				c.Super = most + 1 + i
			}
			p.Classes[i] = c
		}
		wantRefused(t, p, code)
	}
}

// roomy is full's program, each list with spare room behind it that must stay as it is.
func roomy() api.Program {
	p := full()
	for i := range p.Classes {
		c := &p.Classes[i]
		c.Faces = append(c.Faces, 71, 72)[:len(c.Faces)]
		c.Methods = append(c.Methods, api.Method{Name: "spare"})[:len(c.Methods)]
		for k := range c.Methods {
			m := &c.Methods[k]
			m.Args = append(m.Args, 73, 74)[:len(m.Args)]
			m.Code = append(m.Code, api.Ins{Op: 75})[:len(m.Code)]
		}
	}
	return p
}

func TestP14_2TheProgramIsNotChanged(t *testing.T) {
	p := roomy()
	for range 3 {
		if _, code := class.Encode(p); code != api.OK {
			t.Fatal(code)
		}
	}
	if !reflect.DeepEqual(p, roomy()) {
		t.Error("the argument is another")
	}
	for i, c := range p.Classes {
		want := roomy().Classes[i]
		n := len(c.Faces) + 2
		if !slices.Equal(c.Faces[:n], want.Faces[:n]) || c.Methods[:len(c.Methods)+1][len(c.Methods)].Name != "spare" {
			t.Error("the spare room of an argument's list is another")
		}
	}
}
