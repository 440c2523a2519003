package monitor_test

import (
	"math"
	"math/rand"
	"testing"

	"gneiss/api"
	"gneiss/monitor"
)

// wantAlike holds all that can be told of the table against the plain account of it.
func wantAlike(t *testing.T, m *monitor.Table, p *plain, objs []int, after any) {
	t.Helper()
	for _, obj := range objs {
		thread, deep := m.Owner(obj)
		if wantThread, wantDeep := p.owner(obj); thread != wantThread || deep != wantDeep {
			t.Fatalf("after %v: Owner(%d) = %d, %d; want %d, %d", after, obj, thread, deep, wantThread, wantDeep)
		}
	}
	for thread := -1; thread <= len(p.state); thread++ {
		if state := m.State(thread); state != p.stateOf(thread) {
			t.Fatalf("after %v: State(%d) = %d; want %d", after, thread, state, p.stateOf(thread))
		}
	}
}

// callsOf is every call by each of the threads of each of the monitors.
func callsOf(threads int, objs []int) []call {
	var calls []call
	for kind := range callKinds {
		for thread := range threads {
			for _, obj := range objs {
				calls = append(calls, call{kind, thread, obj})
			}
		}
	}
	return calls
}

// walkAll does each row of so many calls, from a new table on, and holds the last one's answer against the plain one's.
func walkAll(t *testing.T, threads int, objs []int, long int) {
	calls := callsOf(threads, objs)
	row := make([]int, long)
	for {
		m, p := newTable(t, threads), newPlain(threads)
		for _, number := range row {
			c := calls[number]
			if got, want := c.of(m), c.of(p); got != want {
				t.Fatalf("row %v of %v: %v answers %v; want %v", row, calls, c, got, want)
			}
		}
		wantAlike(t, m, p, objs, row)
		place := 0
		for place < long && row[place] == len(calls)-1 {
			row[place] = 0
			place++
		}
		if place == long {
			return
		}
		row[place]++
	}
}

func TestP20_1EveryRowOfFewCalls(t *testing.T) {
	walkAll(t, 1, []int{7}, 7)
	walkAll(t, 2, []int{7}, 5)
	walkAll(t, 2, []int{0, -7}, 4)
	walkAll(t, 3, []int{7}, 4)
}

// drawn is a call by numbers, Enter more often than others so that monitors are owned.
func drawn(random *rand.Rand, threads int, objs []int) call {
	kinds := []int{callEnter, callEnter, callEnter, callLeave, callWait, callNotify, callNotifyAll}
	if random.Intn(20) == 0 {
		kinds = []int{callLeaveAll}
	}
	thread := random.Intn(threads)
	if random.Intn(50) == 0 {
		thread = []int{-1, threads, math.MinInt, math.MaxInt}[random.Intn(4)]
	}
	return call{kinds[random.Intn(len(kinds))], thread, objs[random.Intn(len(objs))]}
}

// parted is the table or a copy of it, while the other one goes some other way.
func parted(random *rand.Rand, m *monitor.Table, threads int, objs []int) *monitor.Table {
	other := m.Copy()
	if random.Intn(2) == 0 {
		m, other = other, m
	}
	for range 20 {
		drawn(random, threads, objs).of(other)
	}
	return m
}

func TestP20_1LongWalks(t *testing.T) {
	all := []int{0, 1, -1, 7, math.MaxInt32, math.MinInt32, math.MaxInt, math.MinInt, 1 << 32, 1<<32 + 1}
	for seed := range int64(200) {
		random := rand.New(rand.NewSource(seed))
		threads := 1 + random.Intn(api.MaxThreads)
		objs := all[:1+random.Intn(len(all))]
		m, p := newTable(t, threads), newPlain(threads)
		for i := range 1500 {
			c := drawn(random, threads, objs)
			if got, want := c.of(m), c.of(p); got != want {
				t.Fatalf("seed %d, %d: %v answers %v; want %v", seed, i, c, got, want)
			}
			if i%50 == 49 {
				m = parted(random, m, threads, objs)
			}
			wantAlike(t, m, p, all, c)
		}
	}
}

// TestP20_1LongWalksOfManyWaiters draws calls that go on: a thread that can own waits, and one in some calls notifies.
func TestP20_1LongWalksOfManyWaiters(t *testing.T) {
	objs := []int{3, 4, 5}
	for seed := range int64(100) {
		random := rand.New(rand.NewSource(seed))
		m, p := newTable(t, api.MaxThreads), newPlain(api.MaxThreads)
		for range 1500 {
			thread, obj := random.Intn(api.MaxThreads), objs[random.Intn(len(objs))]
			row := []call{{callEnter, thread, obj}, {callWait, thread, obj}}
			if random.Intn(5) == 0 {
				row[1].kind = callNotify + random.Intn(2)
				row = append(row, call{callLeave, thread, obj})
			}
			for _, c := range row {
				if got, want := c.of(m), c.of(p); got != want {
					t.Fatalf("seed %d: %v answers %v; want %v", seed, c, got, want)
				}
				wantAlike(t, m, p, objs, c)
			}
		}
	}
}
