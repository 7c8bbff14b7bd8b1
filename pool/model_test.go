package pool_test

import (
	"iter"
	"slices"
	"sync"
	"sync/atomic"
	"testing"

	"doorkeeper/api"
	"doorkeeper/atom"
	"doorkeeper/cells"
	"doorkeeper/pool"
	"doorkeeper/task"
)

// mixer makes numbers with mixed bits, the same ones in each run.
func mixer(state uint64) func(n int) int {
	return func(n int) int {
		state += 0x9e3779b97f4a7c15
		z := (state ^ state>>30) * 0xbf58476d1ce4e5b9
		z = (z ^ z>>27) * 0x94d049bb133111eb
		return int((z ^ z>>31) % uint64(n))
	}
}

// schedules yields all lists of so many picks of so many threads.
func schedules(threads, picks int) iter.Seq[[]int] {
	return func(yield func([]int) bool) {
		l := make([]int, picks)
		for {
			if !yield(l) {
				return
			}
			i := 0
			for i < picks && l[i] == threads-1 {
				l[i] = 0
				i++
			}
			if i == picks {
				return
			}
			l[i]++
		}
	}
}

// What a worker is about.
const (
	resting = iota
	taking
	giving
)

// worker is a thread at the pool: its task, the monitor that this gives back, the one that the task was seen to take out, or to put in, and those that it has.
type worker struct {
	about    int
	task     *task.Task
	n, moved int
	has      []int
}

// crew is threads at a pool, whose monitors are known without the cells: each is in the list, or with a thread, or lost for its last generation; and how often there was none.
type crew struct {
	*testing.T
	c       *cells.Cells
	m       api.Map
	list    []int
	lost    []int
	none    int
	workers []*worker
}

// newCrew lays the pool; the monitors have these generations.
func newCrew(t *testing.T, c *cells.Cells, m api.Map, gens ...uint64) *crew {
	x := &crew{T: t, c: c, m: m, list: upTo(m.Monitors)}
	if !pool.Lay(c, m) {
		t.Fatal("not laid")
	}
	for n, gen := range gens {
		c.Store(m.Gen(n), gen)
	}
	for range m.Threads {
		x.workers = append(x.workers, &worker{moved: -1})
	}
	return x
}

// take lets the thread, which rests, begin to take a monitor.
func (x *crew) take(u int) {
	w := x.workers[u]
	w.about, w.task = taking, pool.Take(x.c, x.m, u)
}

// give lets the thread, which rests, begin to give back the one of its monitors that stands there; that may have one more generation.
func (x *crew) give(u, i int, older bool) {
	w := x.workers[u]
	w.n = w.has[i]
	w.has = slices.Delete(w.has, i, i+1)
	if older {
		x.c.Add(x.m.Gen(w.n), 1)
	}
	w.about, w.task = giving, pool.Back(x.c, x.m, u, w.n)
}

// step lets the thread take a step, after which the pool is as it was, or as its task makes it.
func (x *crew) step(u int) {
	x.Helper()
	w := x.workers[u]
	if w.about == resting {
		return
	}
	steps := x.c.Steps()
	if !w.task.Step(api.PickStep) || x.c.Steps() != steps+1 {
		x.Fatalf("the step of the thread %d does %d operations", u, x.c.Steps()-steps)
	}
	if got := pool.Free(x.c, x.m); !slices.Equal(got, x.list) {
		x.move(w, got)
	}
	if w.task.Done() {
		x.end(w)
	}
}

// move tests that the worker may change the list so, once.
func (x *crew) move(w *worker, got []int) {
	x.Helper()
	switch {
	case w.moved >= 0:
	case w.about == taking && len(x.list) > 0 && slices.Equal(got, x.list[1:]):
		w.moved, x.list = x.list[0], got
		return
	case w.about == giving && slices.Equal(got, ahead(w.n, x.list)):
		w.moved, x.list = w.n, got
		return
	}
	x.Fatalf("the pool is %v, was %v; about %d, the monitor %d, and %d has moved", got, x.list, w.about, w.n, w.moved)
}

// end tests the value of the worker's task.
func (x *crew) end(w *worker) {
	x.Helper()
	got := w.task.Value()
	last := x.c.Load(x.m.Gen(w.n)) >= api.MaxGen
	switch {
	case w.about == taking && w.moved >= 0 && got == w.moved:
		w.has = append(w.has, got)
	case w.about == taking && w.moved < 0 && got == -1 && len(x.list) == 0:
		x.none++
	case w.about == giving && w.moved == w.n && got == 1 && !last:
	case w.about == giving && w.moved < 0 && got == 0 && last:
		x.lost = append(x.lost, w.n)
	default:
		x.Fatalf("the value %d, about %d, the monitor %d, and %d has moved; the pool is %v", got, w.about, w.n, w.moved, x.list)
	}
	w.about, w.moved = resting, -1
}

// rest lets all threads come to the end of what they are about, in turn.
func (x *crew) rest() {
	x.Helper()
	for range 1000 {
		working := 0
		for u, w := range x.workers {
			x.step(u)
			if w.about != resting {
				working++
			}
		}
		if working == 0 {
			return
		}
	}
	x.Fatal("the threads do not end")
}

// wantAll tests that each monitor is somewhere once, and that the cells are as the terms say.
func (x *crew) wantAll() {
	x.Helper()
	wantPool(x.T, x.c, x.m, x.list...)
	all := append(slices.Clone(x.list), x.lost...)
	for _, w := range x.workers {
		all = append(all, w.has...)
	}
	slices.Sort(all)
	if !slices.Equal(all, upTo(x.m.Monitors)) {
		x.Fatalf("monitors %v", all)
	}
}

// finish lets all threads give back what they have; then all monitors but those that are lost are in the pool.
func (x *crew) finish() {
	x.Helper()
	x.rest()
	x.wantAll()
	for u, w := range x.workers {
		for len(w.has) > 0 {
			x.give(u, 0, false)
			x.rest()
		}
	}
	x.wantAll()
	if len(x.list)+len(x.lost) != x.m.Monitors {
		x.Fatalf("%v are in the pool, %v are lost", x.list, x.lost)
	}
	if v := x.c.Load(x.m.PoolLatch()); v != 0 {
		x.Fatalf("the latch is %d", v)
	}
}

// P11.1, P11.2, P11.3: threads that take and give back monitors, which get older, in mixed orders.
func TestThreadsAtAPool(t *testing.T) {
	none, lost, full := 0, 0, 0
	for seed := range 1500 {
		next := mixer(uint64(seed))
		m := mapOf(1+next(5), 1+next(2), next(6))
		var gens []uint64
		for range m.Monitors {
			gens = append(gens, uint64(api.MaxGen-next(6)))
		}
		x := newCrew(t, cells.New(m.Size()), m, gens...)
		for range 250 {
			u := next(m.Threads)
			w := x.workers[u]
			switch {
			case w.about != resting:
			case len(w.has) > 0 && next(2) == 0:
				x.give(u, next(len(w.has)), next(3) == 0)
			default:
				x.take(u)
			}
			x.step(u)
		}
		x.finish()
		none += x.none
		lost += len(x.lost)
		if len(x.lost) == 0 {
			full++
		}
	}
	if none < 1000 || lost < 1000 || full < 100 {
		t.Errorf("%d times the pool was empty, %d monitors were lost, %d pools are full again", none, lost, full)
	}
}

// P11.3: two threads, each of which takes a monitor of 0 to 2 that there are, and gives it back, for all lists of 13 picks.
func TestAllOrdersOfTwoThreads(t *testing.T) {
	for monitors := range 3 {
		m := mapOf(2, 1, monitors)
		for picks := range schedules(2, 13) {
			x := newCrew(t, cells.New(m.Size()), m)
			for _, u := range picks {
				w := x.workers[u]
				if w.about == resting && len(w.has) > 0 {
					x.give(u, 0, false)
				} else if w.about == resting {
					x.take(u)
				}
				x.step(u)
			}
			x.finish()
			if len(x.list) != monitors {
				t.Fatalf("%v are in the pool, with the picks %v", x.list, picks)
			}
		}
	}
}

// P11.3: one thread gives back a monitor while two others take one each, of 1 to 3 that there are, for all lists of 7 picks, and then in turn.
func TestAllOrdersOfThreeThreads(t *testing.T) {
	for monitors := 1; monitors <= 3; monitors++ {
		m := mapOf(3, 1, monitors)
		for picks := range schedules(3, 7) {
			x := newCrew(t, cells.New(m.Size()), m)
			x.take(0)
			x.rest()
			x.give(0, 0, false)
			x.take(1)
			x.take(2)
			for _, u := range picks {
				x.step(u)
			}
			x.finish()
		}
	}
}

// P11.2, P11.3: one thread takes all monitors of the largest pool, and gives them back in another order.
func TestTheLargestPool(t *testing.T) {
	m := mapOf(1, 1, api.MaxMonitors)
	c := cells.New(m.Size())
	pool.Lay(c, m)
	for n := range m.Monitors {
		wantSteps(t, c, pool.Take(c, m, 0), n)
	}
	wantSteps(t, c, pool.Take(c, m, 0), -1)
	wantPool(t, c, m)
	var want []int
	for i := range m.Monitors {
		n := i * 5 % m.Monitors
		want = append(want, n)
		wantSteps(t, c, pool.Back(c, m, 0, n), 1)
	}
	slices.Reverse(want)
	wantPool(t, c, m, want...)
}

// P11.3: with goroutines, over cells for concurrent use, no two have a monitor at the same time, and each monitor lasts for as many generations as it has left.
func TestGoroutinesAtAPool(t *testing.T) {
	const rounds, left = 2000, 300
	m := mapOf(6, 1, 5)
	c := atom.New(m.Size())
	pool.Lay(c, m)
	c.Store(m.Gen(1), api.MaxGen-left)
	owners, uses := make([]atomic.Int64, m.Monitors), make([]int, m.Monitors)
	var twice atomic.Int64
	var all sync.WaitGroup
	for u := range m.Threads {
		all.Go(func() {
			for range rounds {
				n := task.Run(pool.Take(c, m, u))
				if n < 0 {
					continue
				}
				if !owners[n].CompareAndSwap(0, int64(u+1)) {
					twice.Add(1)
				}
				uses[n]++
				gen := c.Load(m.Gen(n))
				if n == 1 {
					gen = c.Add(m.Gen(n), 1)
				}
				owners[n].Store(0)
				if put := task.Run(pool.Back(c, m, u, n)); (put == 1) != (gen < api.MaxGen) {
					t.Errorf("Back with the Gen %d: %d", gen, put)
				}
			}
		})
	}
	all.Wait()
	if twice.Load() != 0 {
		t.Errorf("%d times a monitor had two threads", twice.Load())
	}
	got := slices.Sorted(slices.Values(pool.Free(c, m)))
	want := upTo(m.Monitors)
	if uses[1] >= left {
		want = []int{0, 2, 3, 4}
	}
	if !slices.Equal(got, want) || uses[1] > left {
		t.Errorf("%v are in the pool, after %v uses", got, uses)
	}
}
