package latch_test

import (
	"iter"
	"slices"
	"sync"
	"testing"

	"doorkeeper/api"
	"doorkeeper/atom"
	"doorkeeper/cells"
	"doorkeeper/latch"
	"doorkeeper/machine"
	"doorkeeper/task"
)

// What a thread of the model does in one step; taking a latch may need several.
const (
	doTake = iota
	doDrop
	doLoad
	doStore
	doAdd
)

// deed is one of them, with a cell.
type deed struct{ form, i int }

// job is a task, and what it does, deed by deed; from names the deed that its value comes from.
type job struct {
	deeds []deed
	from  int
	make  func(c *cells.Cells, thread int) *task.Task
}

func takes(at int) job {
	return job{[]deed{{doTake, at}}, 0, func(c *cells.Cells, thread int) *task.Task { return latch.Take(c, at, thread) }}
}

func drops(at int) job {
	return job{[]deed{{doDrop, at}}, 0, func(c *cells.Cells, thread int) *task.Task { return latch.Drop(c, at, thread) }}
}

func bumps(at, i int) job {
	return job{[]deed{{doTake, at}, {doLoad, i}, {doStore, i}, {doDrop, at}}, 1, func(c *cells.Cells, thread int) *task.Task {
		return latch.Bump(c, at, thread, i)
	}}
}

func looses(i int) job {
	return job{[]deed{{doLoad, i}, {doStore, i}}, 0, func(c *cells.Cells, thread int) *task.Task { return latch.Loose(c, i) }}
}

// guards has two adds under the latch.
func guards(at, i int) job {
	return job{[]deed{{doTake, at}, {doAdd, i}, {doAdd, i}, {doDrop, at}}, 2, func(c *cells.Cells, thread int) *task.Task {
		return latch.Guard(c, at, thread, func() *task.Task { return task.Seq(task.Add(c, i, 1), task.Add(c, i, 1)) })
	}}
}

// nests has a guard under another latch.
func nests(at, inner, i int) job {
	return job{[]deed{{doTake, at}, {doTake, inner}, {doLoad, i}, {doStore, i}, {doDrop, inner}, {doDrop, at}}, 2, func(c *cells.Cells, thread int) *task.Task {
		return latch.Guard(c, at, thread, func() *task.Task { return latch.Bump(c, inner, thread, i) })
	}}
}

// actor is a thread of the model: at which of its jobs it is, at which deed of that, and what it has loaded.
type actor struct {
	jobs         []job
	at, deed     int
	loaded, from uint64
	values       []int
}

func (a *actor) done() bool { return a.at == len(a.jobs) }

// end ends the current deed, with a value.
func (a *actor) end(v uint64) {
	x := a.jobs[a.at]
	if a.deed == x.from {
		a.from = v
	}
	a.deed++
	if a.deed == len(x.deeds) {
		a.values = append(a.values, int(a.from))
		a.at, a.deed = a.at+1, 0
	}
}

// match compares a machine of latches' tasks with a model, without tasks.
type match struct {
	*testing.T
	c      *cells.Cells
	m      *machine.Machine
	cells  []uint64
	actors []*actor
}

// newMatch has cells, all 0, and threads with these jobs.
func newMatch(t *testing.T, n int, threads ...[]job) *match {
	x := &match{T: t, c: cells.New(n), m: machine.New(), cells: make([]uint64, n)}
	for thread, jobs := range threads {
		var l []*task.Task
		for _, j := range jobs {
			l = append(l, j.make(x.c, thread))
		}
		x.m.Add(l...)
		x.actors = append(x.actors, &actor{jobs: jobs})
	}
	return x
}

// play lets the model's thread take a step, and reports whether it could.
func (x *match) play(thread int) bool {
	a := x.actors[thread]
	if a.done() {
		return false
	}
	d := a.jobs[a.at].deeds[a.deed]
	cell := &x.cells[d.i]
	switch d.form {
	case doTake:
		if *cell != 0 {
			return true
		}
		*cell = mark(thread)
		a.end(1)
		return true
	case doDrop:
		if *cell != mark(thread) {
			a.end(0)
			return true
		}
		*cell = 0
		a.end(1)
		return true
	case doLoad:
		a.loaded = *cell
	case doStore:
		*cell = a.loaded + 1
	case doAdd:
		*cell++
	}
	a.end(*cell)
	return true
}

// pick lets the thread take a step, and compares what it did.
func (x *match) pick(thread int) {
	x.Helper()
	before := x.c.Steps()
	want := x.play(thread)
	if got := x.m.Pick(api.Pick{Thread: thread, Kind: api.PickStep}); got != want {
		x.Fatalf("the step of the thread %d: %v", thread, got)
	}
	if did := x.c.Steps() - before; want && did != 1 || !want && did != 0 {
		x.Fatalf("the step of the thread %d does %d operations", thread, did)
	}
	if got := x.c.All(); !slices.Equal(got, x.cells) {
		x.Fatalf("cells %v after a step of the thread %d, want %v", got, thread, x.cells)
	}
	a := x.actors[thread]
	if got := x.m.Values(thread); !slices.Equal(got, a.values) || x.m.Done(thread) != a.done() {
		x.Fatalf("the thread %d has the values %v, Done = %v; want %v, %v", thread, got, x.m.Done(thread), a.values, a.done())
	}
}

// finish lets all threads take steps in turn, till they are done.
func (x *match) finish() {
	x.Helper()
	for range 1000 {
		for thread := range x.actors {
			x.pick(thread)
		}
		if x.m.Over() {
			return
		}
	}
	x.Fatal("the threads do not end")
}

// mixer makes numbers with mixed bits, the same ones in each run.
func mixer(state uint64) func(n int) int {
	return func(n int) int {
		state += 0x9e3779b97f4a7c15
		z := (state ^ state>>30) * 0xbf58476d1ce4e5b9
		z = (z ^ z>>27) * 0x94d049bb133111eb
		return int((z ^ z>>31) % uint64(n))
	}
}

// schedules yields all lists of so many picks of so many threads.
func schedules(threads, picks int) iter.Seq[[]int] {
	return func(yield func([]int) bool) {
		l := make([]int, picks)
		for {
			if !yield(l) {
				return
			}
			i := 0
			for i < picks && l[i] == threads-1 {
				l[i] = 0
				i++
			}
			if i == picks {
				return
			}
			l[i]++
		}
	}
}

// P9.1, P9.2, P9.3: on two latches and two other cells, whatever the tasks and the picks are.
func TestTasksAreAsTheModel(t *testing.T) {
	anyJob := func(next func(int) int) job {
		at, i := next(2), 2+next(2)
		return []job{takes(at), drops(at), bumps(at, i), looses(i), guards(at, i), nests(0, 1, i)}[next(6)]
	}
	ended := 0
	for seed := range 5000 {
		next := mixer(uint64(seed))
		threads := make([][]job, 1+next(5))
		for thread := range threads {
			for range next(5) {
				threads[thread] = append(threads[thread], anyJob(next))
			}
		}
		x := newMatch(t, 4, threads...)
		for range 150 {
			x.pick(next(len(threads)))
		}
		if x.m.Over() {
			ended++
		}
	}
	if ended < 1000 || ended > 4000 {
		t.Errorf("%d of 5000 came to their end", ended)
	}
}

// P9.3: two threads' bumps, for all lists of 14 picks, and three threads', for many of 30; then the threads take steps in turn.
func TestBumpsAddTheirNumber(t *testing.T) {
	for l := range schedules(2, 14) {
		wantBumps(t, l, []job{bumps(0, 1), bumps(0, 1)}, []job{bumps(0, 1), guards(0, 1)})
	}
	for seed := range 3000 {
		next := mixer(uint64(seed))
		l := make([]int, 30)
		for i := range l {
			l[i] = next(3)
		}
		wantBumps(t, l, []job{bumps(0, 1)}, []job{bumps(0, 1), bumps(0, 1)}, []job{bumps(0, 1), guards(0, 1), bumps(0, 1)})
	}
}

// wantBumps tests that nothing is lost of what the threads add under the latch.
func wantBumps(t *testing.T, picks []int, threads ...[]job) {
	t.Helper()
	x := newMatch(t, 2, threads...)
	for _, thread := range picks {
		x.pick(thread)
	}
	x.finish()
	sum := uint64(0)
	for _, jobs := range threads {
		for _, j := range jobs {
			sum++
			if j.deeds[1].form == doAdd {
				sum++
			}
		}
	}
	if got := x.c.All(); got[0] != 0 || got[1] != sum {
		t.Fatalf("cells %v, want 0 and %d", got, sum)
	}
}

// P9.3: loose ones add at least 1 and at most their number, in all orders; and each number between is added in some.
func TestLooseOnesAddAtMostTheirNumber(t *testing.T) {
	var seen [4]bool
	for l := range schedules(3, 6) {
		x := newMatch(t, 1, []job{looses(0)}, []job{looses(0)}, []job{looses(0)})
		for _, thread := range l {
			x.pick(thread)
		}
		x.finish()
		seen[x.c.Load(0)] = true
	}
	if seen != [4]bool{false, true, true, true} {
		t.Errorf("added: %v", seen)
	}
}

// P9.3: from the end of a thread's Take on till its Drop, no other Take ends, even if the latch is dropped for a thread that does not hold it.
func TestOneThreadHoldsTheLatch(t *testing.T) {
	const threads = 4
	turns := 0
	for seed := range 500 {
		next, c, m := mixer(uint64(seed)), cells.New(1), machine.New()
		for thread := range threads {
			m.Make(func(i int) *task.Task {
				switch i % 3 {
				case 0:
					return latch.Take(c, 0, thread)
				case 1:
					// The other one does not hold it, so this changes nothing.
					return latch.Drop(c, 0, (thread+1)%threads)
				}
				return latch.Drop(c, 0, thread)
			})
		}
		for range 300 {
			m.Pick(api.Pick{Thread: next(threads), Kind: api.PickStep})
			turns += wantOneInside(t, m)
		}
	}
	if turns < 10000 {
		t.Errorf("a thread is inside after only %d picks", turns)
	}
}

// wantOneInside tests that at most one thread is between the end of its Take and its Drop, and returns how many are.
func wantOneInside(t *testing.T, m *machine.Machine) int {
	t.Helper()
	inside := 0
	for thread := range m.Threads() {
		if len(m.Values(thread))%3 != 0 {
			inside++
		}
	}
	if inside > 1 {
		t.Fatalf("%d threads are inside", inside)
	}
	return inside
}

// The same holds for threads that are goroutines, over cells for concurrent use; what the latch protects needs no other lock.
func TestGoroutinesUnderALatch(t *testing.T) {
	const threads, rounds = 4, 300
	c := atom.New(3)
	plain := 0
	var all sync.WaitGroup
	for thread := range threads {
		all.Go(func() {
			for range rounds {
				task.Run(latch.Bump(c, 0, thread, 1))
				task.Run(latch.Loose(c, 2))
				task.Run(latch.Guard(c, 0, thread, func() *task.Task { plain++; return nil }))
			}
		})
	}
	all.Wait()
	got := c.All()
	if got[0] != 0 || got[1] != threads*rounds || plain != threads*rounds || got[2] < 1 || got[2] > threads*rounds {
		t.Fatalf("cells %v, and %d", got, plain)
	}
}
