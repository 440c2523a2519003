package spine_test

import (
	"math"
	"slices"
	"testing"

	"gneiss/api"
	"gneiss/arena"
	"gneiss/spine"
)

const head = 4

var (
	noAgents = []int{math.MinInt, -1 << 32, -1, 3, 4, 12, 1 << 32, math.MaxInt}
	edges    = []int{math.MinInt, math.MinInt + 1, -1 << 32, -1, 1 << 32, 1<<32 + 1, math.MaxInt - 1, math.MaxInt}
)

// row is a fixed row of numbers.
type row uint64

func (r *row) next(below int) int {
	*r = *r*6364136223846793005 + 1442695040888963407
	return int(uint64(*r) >> 33 % uint64(below))
}

func newArena(t *testing.T, words, agents int) *arena.Arena {
	t.Helper()
	a, code := arena.New(words, agents)
	if a == nil || code != api.OK {
		t.Fatalf("arena.New(%d, %d) = %v, %d", words, agents, a, code)
	}
	return a
}

func newSpace(t *testing.T, a *arena.Arena, base, words int) *spine.Space {
	t.Helper()
	s, code := spine.New(a, base, words)
	if s == nil || code != api.OK {
		t.Fatalf("New(%d, %d) = %v, %d", base, words, s, code)
	}
	return s
}

func fill(a *arena.Arena, word func(at int) int) {
	for at := range a.Words() {
		a.Store(0, at, word(at))
	}
}

func stepsOf(a *arena.Arena) []int {
	all := make([]int, api.MaxAgents)
	for agent := range all {
		all[agent] = a.Steps(agent)
	}
	return all
}

// both is a space and what it must be: plain arrays, and how much of a half they take.
type both struct {
	t       *testing.T
	a       *arena.Arena
	s       *spine.Space
	half    int
	held    map[int][]int
	ids     []int
	given   int
	early   int // words of those that were dropped ahead of the cycle that began last
	late    int // words of those that were dropped since
	under   bool
	counted int
}

// bothOf is a space in an arena of three agents whose words were something else, with a margin on either side.
func bothOf(t *testing.T, words int) *both {
	t.Helper()
	a := newArena(t, words+2*head, 3)
	fill(a, func(at int) int { return -at - 7 })
	b := &both{t: t, a: a, s: newSpace(t, a, head, words), half: words / 2, held: map[int][]int{}}
	b.wantAll()
	return b
}

func (b *both) room() int {
	room := b.half - b.early - b.late
	for _, x := range b.held {
		room -= len(x) + head
	}
	return room
}

// wantSteps tells that from before on the agent alone has done steps, at least one and at most so many.
func (b *both) wantSteps(before []int, agent, most int) {
	b.t.Helper()
	for other, steps := range stepsOf(b.a) {
		done := steps - before[other]
		if other == agent && (done < 1 || done > most) || other != agent && done != 0 {
			b.t.Fatalf("agent %d has done %d steps in a call of agent %d, which may do %d", other, done, agent, most)
		}
	}
}

func (b *both) wantNoSteps(before []int) {
	b.t.Helper()
	if after := stepsOf(b.a); !slices.Equal(after, before) {
		b.t.Fatalf("the agents' steps were %v, and are %v", before, after)
	}
}

// make makes an array if there is room for it; it is 0 if not.
func (b *both) make(agent, n int) int {
	b.t.Helper()
	before := stepsOf(b.a)
	id, code := b.s.Make(agent, n)
	if n+head > b.room() {
		if id != 0 || code != api.ErrSpineFull {
			b.t.Fatalf("room is %d: Make(%d, %d) = %d, %d; want 0, ErrSpineFull", b.room(), agent, n, id, code)
		}
		b.wantNoSteps(before)
		return 0
	}
	if id <= b.given && slices.Contains(b.ids, id) || id < 1 || code != api.OK {
		b.t.Fatalf("room is %d: Make(%d, %d) = %d, %d; %v were given", b.room(), agent, n, id, code, b.ids)
	}
	b.held[id], b.given = make([]int, n), max(b.given, id)
	b.ids = append(b.ids, id)
	return id
}

func (b *both) get(agent, id, i int) {
	b.t.Helper()
	before := stepsOf(b.a)
	got, code := b.s.Get(agent, id, i)
	if want := b.code(id, i); code != want || want == api.OK && got != b.held[id][i] || want != api.OK && got != 0 {
		b.t.Fatalf("Get(%d, %d, %d) = %d, %d; want %d, of %v", agent, id, i, got, code, want, b.held[id])
	}
	if code != api.OK {
		b.wantNoSteps(before)
		return
	}
	b.wantSteps(before, agent, 6)
}

func (b *both) set(agent, id, i, v int) {
	b.t.Helper()
	before := stepsOf(b.a)
	code := b.s.Set(agent, id, i, v)
	if want := b.code(id, i); code != want {
		b.t.Fatalf("Set(%d, %d, %d, %d) = %d; want %d", agent, id, i, v, code, want)
	}
	if code != api.OK {
		b.wantNoSteps(before)
		return
	}
	b.held[id][i] = v
	b.wantSteps(before, agent, 6)
}

func (b *both) code(id, i int) api.Errno {
	x, is := b.held[id]
	switch {
	case !is:
		return api.ErrSpineId
	case i < 0 || i >= len(x):
		return api.ErrSpineBounds
	}
	return api.OK
}

func (b *both) drop(id int) {
	b.t.Helper()
	x, is := b.held[id]
	want := api.OK
	if !is {
		want = api.ErrSpineId
	}
	before := stepsOf(b.a)
	if code := b.s.Drop(id); code != want {
		b.t.Fatalf("Drop(%d) = %d; want %d", id, code, want)
	}
	b.wantNoSteps(before)
	if is {
		b.late += len(x) + head
		delete(b.held, id)
	}
}

func (b *both) begin() {
	b.t.Helper()
	before := stepsOf(b.a)
	code := b.s.Begin()
	switch {
	case b.under && code != api.ErrSpineNone, !b.under && code != api.OK:
		b.t.Fatalf("Begin() = %d; a cycle is under way: %v", code, b.under)
	case !b.under:
		b.early, b.late, b.under, b.counted = b.late, 0, true, 0
	}
	b.wantNoSteps(before)
}

// step does one step, and tells whether the cycle is under way still.
func (b *both) step(agent int) bool {
	b.t.Helper()
	before := stepsOf(b.a)
	more, code := b.s.Step(agent)
	if code != api.OK || more && !b.under {
		b.t.Fatalf("Step(%d) = %v, %d; a cycle is under way: %v", agent, more, code, b.under)
	}
	if !b.under {
		b.wantNoSteps(before)
	}
	if after := stepsOf(b.a); after[agent]-before[agent] > 4 {
		b.t.Fatalf("Step(%d) has done %d steps", agent, after[agent]-before[agent])
	}
	b.counted++
	if b.under && !more {
		b.under, b.early = false, 0
	}
	return more
}

// finish does the cycle to its end, by nothing but Step, and tells in how many.
func (b *both) finish(agent int) int {
	b.t.Helper()
	from := b.counted
	for b.step(agent) {
		if b.counted-from > 8*b.half+16*b.half+16 {
			b.t.Fatalf("a cycle in a half of %d words does not end", b.half)
		}
	}
	return b.counted - from
}

// wantAll tells that the space is as it must be, and has kept to its words.
func (b *both) wantAll() {
	b.t.Helper()
	if got := b.s.Room(); got != b.room() {
		b.t.Fatalf("Room() = %d; want %d", got, b.room())
	}
	for _, id := range b.ids {
		x, is := b.held[id]
		n, code := b.s.Len(id)
		if is && (n != len(x) || code != api.OK) || !is && (n != 0 || code != api.ErrSpineId) {
			b.t.Fatalf("Len(%d) = %d, %d; is it there: %v, of %d words", id, n, code, is, len(x))
		}
		for i := range x {
			if v, code := b.s.Get(i%3, id, i); v != x[i] || code != api.OK {
				b.t.Fatalf("Get(%d, %d, %d) = %d, %d; want %d", i%3, id, i, v, code, x[i])
			}
		}
	}
	for i := range head {
		for _, at := range []int{i, b.a.Words() - 1 - i} {
			if word, _ := b.a.Load(0, at); word != -at-7 {
				b.t.Fatalf("word %d is %d; it was %d", at, word, -at-7)
			}
		}
	}
}

func TestP7_1NewRefuses(t *testing.T) {
	const words = 500
	a := newArena(t, words, 2)
	fill(a, func(at int) int { return at })
	before := stepsOf(a)
	refused := [][2]int{
		{0, 31}, {0, 30}, {0, 1}, {0, 0}, {0, -1}, {0, -32}, {0, words + 1}, {1, words}, {-1, 32}, {-1, words}, {-32, 32},
		{words - 31, 32}, {words - 32, 33}, {words, 32}, {words, 0}, {words + 1, 32}, {words, -words},
	}
	for _, edge := range edges {
		refused = append(refused, [2]int{edge, 32}, [2]int{0, edge}, [2]int{edge, edge}, [2]int{edge, math.MaxInt},
			[2]int{math.MaxInt, edge}, [2]int{edge, -edge}, [2]int{32, edge}, [2]int{words, edge})
	}
	for _, c := range refused {
		if s, code := spine.New(a, c[0], c[1]); s != nil || code != api.ErrSpineSize {
			t.Errorf("New(%d, %d) = %v, %d; want nil, ErrSpineSize", c[0], c[1], s, code)
		}
	}
	for _, c := range [][2]int{{0, 32}, {0, 31}, {-1, 5}, {math.MaxInt, math.MaxInt}} {
		if s, code := spine.New(nil, c[0], c[1]); s != nil || code != api.ErrNil {
			t.Errorf("New(nil, %d, %d) = %v, %d; want nil, ErrNil", c[0], c[1], s, code)
		}
	}
	if after := stepsOf(a); !slices.Equal(after, before) {
		t.Errorf("a New that was refused has done steps: %v, %v", before, after)
	}
	for at := range words {
		if word, _ := a.Load(0, at); word != at {
			t.Fatalf("a New that was refused made word %d %d", at, word)
		}
	}
}

func TestP7_1NewIsEmpty(t *testing.T) {
	for _, words := range []int{32, 33, 34, 35, 499, 500} {
		a := newArena(t, 500, 1)
		for _, base := range []int{0, 500 - words} {
			s := newSpace(t, a, base, words)
			if s.Room() != words/2 || a.Steps(0) != 0 {
				t.Errorf("New(%d, %d): Room() = %d; want %d, by %d steps", base, words, s.Room(), words/2, a.Steps(0))
			}
			for _, id := range append([]int{-1, 0, 1, 2}, edges...) {
				if n, code := s.Len(id); n != 0 || code != api.ErrSpineId {
					t.Errorf("Len(%d) = %d, %d", id, n, code)
				}
			}
			if more, code := s.Step(0); more || code != api.OK {
				t.Errorf("Step(0) = %v, %d; no cycle is under way", more, code)
			}
			if code := s.Begin(); code != api.OK {
				t.Errorf("Begin() = %d", code)
			}
		}
	}
	if s := newSpace(t, newArena(t, api.MaxWords, 12), 0, api.MaxWords); s.Room() != api.MaxWords/2 {
		t.Errorf("the greatest: Room() = %d", s.Room())
	}
}

func TestP7_1ANewOneOverAnOldOneIsEmpty(t *testing.T) {
	a := newArena(t, 100, 1)
	old := newSpace(t, a, 0, 100)
	id, _ := old.Make(0, 10)
	old.Set(0, id, 3, 5)
	s := newSpace(t, a, 0, 100)
	if _, code := s.Len(id); code != api.ErrSpineId || s.Room() != 50 {
		t.Errorf("a new space: Len(%d): %d; Room() = %d", id, code, s.Room())
	}
	id, _ = s.Make(0, 10)
	for i := range 10 {
		if v, code := s.Get(0, id, i); v != 0 || code != api.OK {
			t.Errorf("Get(0, %d, %d) = %d, %d; want 0, OK", id, i, v, code)
		}
	}
}

func TestP7_1SideBySide(t *testing.T) {
	a := newArena(t, 150, 2)
	var all []*spine.Space
	var ids []int
	for i := range 3 {
		all = append(all, newSpace(t, a, 50*i, 50))
	}
	for i, s := range all {
		id, code := s.Make(i%2, 21)
		if code != api.OK {
			t.Fatalf("Make(%d, 21) = %d, %d", i%2, id, code)
		}
		for at := range 21 {
			s.Set(0, id, at, 100*i+at)
		}
		ids = append(ids, id)
	}
	all[1].Begin()
	for more := true; more; {
		more, _ = all[1].Step(0)
	}
	all[0].Begin()
	all[0].Step(1)
	for i, s := range all {
		for at := range 21 {
			if v, code := s.Get(1, ids[i], at); v != 100*i+at || code != api.OK {
				t.Errorf("space %d: Get(1, %d, %d) = %d, %d; want %d", i, ids[i], at, v, code, 100*i+at)
			}
		}
	}
}

func TestP7_2MakeRefuses(t *testing.T) {
	b := bothOf(t, 3000)
	b.make(2, 5)
	before := stepsOf(b.a)
	wantNone := func(agent, n int, want api.Errno) {
		t.Helper()
		if id, code := b.s.Make(agent, n); id != 0 || code != want {
			t.Errorf("Make(%d, %d) = %d, %d; want 0, %d", agent, n, id, code, want)
		}
	}
	for _, agent := range noAgents {
		for _, n := range append([]int{-1, 0, 5, 1000, 1001}, edges...) {
			wantNone(agent, n, api.ErrSpineId)
		}
	}
	for _, n := range append([]int{-1000, -4, -1, 1001, 1491, 1492, 65536}, edges...) {
		wantNone(0, n, api.ErrSpineSize)
	}
	b.wantNoSteps(before)
	b.wantAll()
	b.make(0, 1000)
	before = stepsOf(b.a)
	wantNone(-1, 1000, api.ErrSpineId)
	wantNone(0, 1001, api.ErrSpineSize)
	wantNone(0, 1000, api.ErrSpineFull)
	b.wantNoSteps(before)
	b.wantAll()
}

func TestP7_2MakeTillItIsFull(t *testing.T) {
	for words := 32; words < 140; words++ {
		for _, n := range []int{0, 1, 2, 5, 12} {
			b := bothOf(t, words)
			for b.make(words%3, n) != 0 {
				b.wantAll()
			}
			for b.room() >= head {
				if b.make(0, b.room()-head+1) != 0 || b.make(0, b.room()-head) == 0 {
					t.Fatalf("a half of %d words, room %d", b.half, b.room())
				}
			}
			b.make(1, 0)
			b.wantAll()
		}
	}
}

func TestP7_2TheGreatestArrays(t *testing.T) {
	b := bothOf(t, 2*(api.MaxArray+head))
	id := b.make(0, api.MaxArray)
	b.make(0, 0)
	for i := range api.MaxArray {
		b.set(i%3, id, i, math.MinInt+i)
	}
	b.wantAll()
	b.begin()
	b.finish(1)
	b.wantAll()
}

func TestP7_2WordsAreZeroAtFirst(t *testing.T) {
	b := bothOf(t, 101)
	for range 6 {
		for n := range 6 {
			if id := b.make(n%3, n); id != 0 {
				b.wantAll()
				for i := range n {
					b.set(0, id, i, -1-i)
				}
			}
		}
		for _, id := range b.ids {
			b.drop(id)
		}
		b.begin()
		b.finish(0)
	}
}

func TestP7_2NumbersAreNotGivenAgain(t *testing.T) {
	b := bothOf(t, 64)
	for round := range 200 {
		id := b.make(0, round%9)
		b.drop(id)
		if round%2 == 0 {
			b.begin()
			b.finish(0)
		}
		if b.room() < 12 {
			b.finish(0)
			b.begin()
			b.finish(0)
		}
	}
	b.wantAll()
	for _, id := range b.ids {
		b.drop(id)
		b.get(0, id, 0)
	}
}

func TestP7_2GetAndSetRefuse(t *testing.T) {
	b := bothOf(t, 200)
	x, y := b.make(0, 3), b.make(1, 0)
	gone := b.make(2, 4)
	b.drop(gone)
	b.set(0, x, 2, 77)
	check := func() {
		t.Helper()
		before := stepsOf(b.a)
		for _, agent := range noAgents {
			for _, i := range []int{-1, 0, 3} {
				if v, code := b.s.Get(agent, x, i); v != 0 || code != api.ErrSpineId {
					t.Errorf("Get(%d, %d, %d) = %d, %d; want 0, ErrSpineId", agent, x, i, v, code)
				}
				if code := b.s.Set(agent, x, i, 9); code != api.ErrSpineId {
					t.Errorf("Set(%d, %d, %d, 9) = %d; want ErrSpineId", agent, x, i, code)
				}
			}
		}
		for _, id := range append([]int{0, -1, gone, gone + 1, x + 1<<32}, edges...) {
			for _, i := range []int{-1, 0, 1, 4} {
				b.get(0, id, i)
				b.set(0, id, i, 9)
			}
			b.drop(id)
			if n, code := b.s.Len(id); n != 0 || code != api.ErrSpineId {
				t.Errorf("Len(%d) = %d, %d; want 0, ErrSpineId", id, n, code)
			}
		}
		for _, i := range append([]int{-1, 3, 4, 1000}, edges...) {
			b.get(2, x, i)
			b.set(2, x, i, 9)
			b.get(0, y, i)
			b.set(0, y, i, 9)
		}
		b.get(0, y, 0)
		b.set(0, y, 0, 9)
		b.wantNoSteps(before)
		b.wantAll()
	}
	check()
	b.begin()
	for more := true; more; more = b.step(0) {
		check()
	}
	check()
}

func TestP7_2WordsHoldAnyInt(t *testing.T) {
	b := bothOf(t, 100)
	id := b.make(0, len(edges))
	for i, v := range edges {
		b.set(i%3, id, i, v)
	}
	b.wantAll()
	b.begin()
	for b.step(0) {
		b.wantAll()
	}
	b.wantAll()
}

func TestP7_2StepsHangOnNoLength(t *testing.T) {
	for _, n := range []int{1, 10, 999, 1000} {
		b := bothOf(t, 2*n+2*head+40)
		id := b.make(0, n)
		b.begin()
		for more := true; more; more = b.step(0) {
			for _, i := range []int{0, n / 2, n - 1} {
				b.get(1, id, i)
				b.set(2, id, i, i+b.counted)
			}
		}
		b.wantAll()
	}
}

func TestP7_3BeginAndStep(t *testing.T) {
	b := bothOf(t, 80)
	for range 3 {
		if b.step(1) {
			t.Fatal("no cycle is under way")
		}
		b.begin()
		b.begin()
		b.make(0, 2)
		b.begin()
		b.finish(2)
		b.wantAll()
	}
	b.begin()
	before := stepsOf(b.a)
	for _, agent := range noAgents {
		if more, code := b.s.Step(agent); more || code != api.ErrSpineId {
			t.Errorf("Step(%d) = %v, %d; want false, ErrSpineId", agent, more, code)
		}
	}
	b.wantNoSteps(before)
	b.finish(0)
	for _, agent := range noAgents {
		if more, code := b.s.Step(agent); more || code != api.ErrSpineId {
			t.Errorf("no cycle: Step(%d) = %v, %d; want false, ErrSpineId", agent, more, code)
		}
	}
	b.begin()
}

func TestP7_3ACycleEnds(t *testing.T) {
	for _, sizes := range [][]int{
		nil, {0}, {1}, {0, 0, 0}, {5, 0, 7}, {1000}, {1000, 1000, 0, 37}, make([]int, 300), {1, 2, 3, 4, 5, 6, 7, 8, 9},
	} {
		b := bothOf(t, 5000)
		sum := 0
		for _, n := range sizes {
			b.make(0, n)
			sum += n
		}
		for range 3 {
			b.begin()
			if steps := b.finish(0); steps > 8*sum+16*len(sizes)+16 {
				t.Errorf("%v: %d steps", sizes, steps)
			}
			b.wantAll()
		}
	}
}

// Of what is dropped the cycle that is under way gives nothing back; the next one does.
func TestP7_3RoomOfWhatIsDropped(t *testing.T) {
	for stop := range 14 {
		b := bothOf(t, 100)
		x, y, z := b.make(0, 3), b.make(0, 4), b.make(0, 0)
		b.drop(y)
		b.wantAll()
		b.begin()
		b.wantAll()
		for range stop {
			b.step(0)
			b.wantAll()
		}
		b.drop(x)
		b.drop(z)
		w := b.make(0, 1)
		b.drop(w)
		b.finish(1)
		b.wantAll()
		b.begin()
		b.finish(1)
		b.wantAll()
		if b.s.Room() != b.half {
			t.Fatalf("all are gone: Room() = %d; want %d", b.s.Room(), b.half)
		}
		if b.make(0, b.half-head) == 0 {
			t.Fatal("all are gone: a half is free")
		}
	}
}

// At each moment of a cycle each word is set once.
func TestP7_4SetAtEachMoment(t *testing.T) {
	sizes := []int{3, 0, 1, 4}
	for stop := 0; ; stop++ {
		over := false
		for x := range sizes {
			for i := range sizes[x] {
				b := bothOf(t, 64)
				var ids []int
				for _, n := range sizes {
					id := b.make(0, n)
					for at := range n {
						b.set(0, id, at, 100*id+at)
					}
					ids = append(ids, id)
				}
				b.begin()
				for range stop {
					b.step(0)
				}
				over = !b.under
				b.set(1, ids[x], i, -1)
				b.wantAll()
				b.finish(2)
				b.wantAll()
				b.begin()
				b.finish(0)
				b.wantAll()
			}
		}
		if over {
			return
		}
	}
}

// At each moment of a cycle all the room that is left is taken, and what is taken is written.
func TestP7_4MakeAtEachMoment(t *testing.T) {
	for _, gone := range []int{0, 1, 2} {
		for stop, over := 0, false; !over; stop++ {
			b := bothOf(t, 121)
			ids := []int{b.make(0, 5), b.make(1, 0), b.make(2, 7), b.make(0, 2)}
			b.set(0, ids[0], 4, 9)
			b.set(0, ids[2], 0, 8)
			b.drop(ids[gone])
			b.begin()
			for range stop {
				b.step(0)
			}
			over = !b.under
			b.drop(ids[3])
			for _, n := range []int{6, 0, b.room() - 18} {
				id := b.make(1, n)
				for i := range n {
					b.set(0, id, i, 50+i)
				}
				b.wantAll()
			}
			if b.room() != 0 {
				t.Fatalf("room is %d", b.room())
			}
			b.finish(0)
			b.wantAll()
			b.begin()
			for b.step(2) {
				b.wantAll()
			}
			b.wantAll()
			b.make(0, b.room()-head)
			b.wantAll()
		}
	}
}

// At each moment of a cycle one of the arrays is dropped.
func TestP7_4DropAtEachMoment(t *testing.T) {
	for x := range 4 {
		for stop, over := 0, false; !over; stop++ {
			b := bothOf(t, 80)
			ids := []int{b.make(0, 3), b.make(0, 0), b.make(0, 2), b.make(0, 4)}
			for _, id := range ids {
				for i := range b.held[id] {
					b.set(0, id, i, 10*id+i)
				}
			}
			b.begin()
			for range stop {
				b.step(1)
			}
			over = !b.under
			b.drop(ids[x])
			b.wantAll()
			for b.under {
				b.step(0)
				b.wantAll()
			}
			b.begin()
			b.finish(0)
			b.make(0, b.room()-head)
			b.wantAll()
		}
	}
}

func (b *both) anyId(r *row) int {
	if len(b.ids) == 0 || r.next(30) == 0 {
		return r.next(5) - 2
	}
	if r.next(12) == 0 {
		return b.ids[r.next(len(b.ids))]
	}
	return b.ids[len(b.ids)-1-r.next(min(len(b.ids), 8))]
}

func (b *both) anyCall(r *row, longest int) {
	b.t.Helper()
	agent, id := r.next(3), b.anyId(r)
	switch r.next(12) {
	case 0:
		b.make(agent, r.next(longest))
	case 1:
		if room := b.room() - head; room >= 0 && room <= api.MaxArray && r.next(3) == 0 {
			b.make(agent, room)
		}
	case 2, 3, 4:
		b.set(agent, id, r.next(longest+2)-1, r.next(1000)-500)
	case 5:
		b.get(agent, id, r.next(longest+2)-1)
	case 6:
		b.drop(id)
	case 7:
		b.begin()
	default:
		b.step(agent)
	}
}

func TestP7_4LongWalks(t *testing.T) {
	r := row(7)
	for round := range 120 {
		b := bothOf(t, 32+r.next(40*(1+round%10)))
		longest := 1 + r.next(30)
		for range 300 {
			b.anyCall(&r, longest)
			b.wantAll()
		}
	}
}

func TestP7_4ALongWalkInMuchRoom(t *testing.T) {
	r := row(3)
	b := bothOf(t, 60000)
	for i := range 60000 {
		b.anyCall(&r, 300)
		if i%2000 == 0 {
			b.wantAll()
		}
	}
	b.wantAll()
}

func TestSizesManyArrays(t *testing.T) {
	a := newArena(t, api.MaxWords, 1)
	s := newSpace(t, a, 0, api.MaxWords)
	for i := range api.MaxWords / 2 / head {
		if id, code := s.Make(0, 0); code != api.OK {
			t.Fatalf("array %d: Make(0, 0) = %d, %d", i, id, code)
		}
	}
	if _, code := s.Make(0, 0); code != api.ErrSpineFull || s.Room() != 0 {
		t.Fatalf("Make(0, 0): %d; Room() = %d", code, s.Room())
	}
	s.Begin()
	steps := 1
	for more, _ := s.Step(0); more; more, _ = s.Step(0) {
		steps++
	}
	if steps > 16*8192+16 {
		t.Errorf("%d steps", steps)
	}
}

func TestR1WordsThatOthersWrote(t *testing.T) {
	r := row(11)
	junk := append([]int{0, 1, 5, 20, 49, 50, 51, 99, 100, 101, 150}, edges...)
	for round := range 300 {
		a := newArena(t, 200, 2)
		s := newSpace(t, a, 50, 100)
		for range 60 {
			for range r.next(4) {
				a.Store(0, 50+r.next(100), junk[r.next(len(junk))])
			}
			if round%3 == 0 {
				for at := range 100 {
					a.Store(0, 50+at, junk[r.next(len(junk))])
				}
			}
			id, i := 1+r.next(6), r.next(10)
			switch r.next(7) {
			case 0:
				s.Make(0, r.next(9))
			case 1:
				s.Get(1, id, i)
			case 2:
				s.Set(1, id, i, 9)
			case 3:
				s.Drop(id)
			case 4:
				s.Begin()
			default:
				s.Step(0)
			}
			s.Room()
			s.Len(id)
		}
		for steps := 0; ; steps++ {
			if more, _ := s.Step(1); !more {
				break
			}
			if steps > 8*50+16*13+16 {
				t.Fatalf("round %d: a cycle does not end", round)
			}
		}
		for at := range 50 {
			for _, at := range []int{at, 150 + at} {
				if word, _ := a.Load(0, at); word != 0 {
					t.Fatalf("round %d: word %d is %d", round, at, word)
				}
			}
		}
	}
}

func TestR3Nil(t *testing.T) {
	var s *spine.Space
	for _, n := range []int{-1, 0, 1, 1001} {
		if id, code := s.Make(n, n); id != 0 || code != api.ErrNil {
			t.Errorf("Make = %d, %d", id, code)
		}
		if v, code := s.Get(n, n, n); v != 0 || code != api.ErrNil {
			t.Errorf("Get = %d, %d", v, code)
		}
		if code := s.Set(n, n, n, n); code != api.ErrNil {
			t.Errorf("Set = %d", code)
		}
		if v, code := s.Len(n); v != 0 || code != api.ErrNil {
			t.Errorf("Len = %d, %d", v, code)
		}
		if code := s.Drop(n); code != api.ErrNil {
			t.Errorf("Drop = %d", code)
		}
		if more, code := s.Step(n); more || code != api.ErrNil {
			t.Errorf("Step = %v, %d", more, code)
		}
	}
	if code := s.Begin(); code != api.ErrNil || s.Room() != 0 {
		t.Errorf("Begin = %d, Room = %d", code, s.Room())
	}
}

func TestR1SpacesThatNewDidNotMake(t *testing.T) {
	var s spine.Space
	for range 2 {
		s.Make(0, 0)
		s.Get(0, 0, 0)
		s.Set(0, 1, 0, 1)
		s.Len(0)
		s.Drop(0)
		s.Begin()
		s.Step(0)
		s.Room()
	}
}
