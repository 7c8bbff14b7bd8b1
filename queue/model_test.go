package queue_test

import (
	"iter"
	"slices"
	"sync"
	"testing"

	"doorkeeper/api"
	"doorkeeper/atom"
	"doorkeeper/cells"
	"doorkeeper/latch"
	"doorkeeper/machine"
	"doorkeeper/queue"
	"doorkeeper/task"
)

// mixer makes numbers with mixed bits, the same ones in each run.
func mixer(state uint64) func(n int) int {
	return func(n int) int {
		state += 0x9e3779b97f4a7c15
		z := (state ^ state>>30) * 0xbf58476d1ce4e5b9
		z = (z ^ z>>27) * 0x94d049bb133111eb
		return int((z ^ z>>31) % uint64(n))
	}
}

// schedules yields all lists of so many picks of so many threads.
func schedules(threads, picks int) iter.Seq[[]int] {
	return func(yield func([]int) bool) {
		l := make([]int, picks)
		for {
			if !yield(l) {
				return
			}
			i := 0
			for i < picks && l[i] == threads-1 {
				l[i] = 0
				i++
			}
			if i == picks {
				return
			}
			l[i]++
		}
	}
}

// rows are queues as lists, without cells.
type rows [][]int

// in returns the row with the thread, or -1.
func (r rows) in(t int) int {
	return slices.IndexFunc(r, func(l []int) bool { return slices.Contains(l, t) })
}

func (r rows) push(i, t int) int {
	r[i] = append(slices.Clone(r[i]), t)
	return 0
}

func (r rows) pop(i int) int {
	if len(r[i]) == 0 {
		return -1
	}
	t := r[i][0]
	r[i] = slices.Clone(r[i][1:])
	return t
}

func (r rows) remove(i, t int) int {
	if r.in(t) != i {
		return 0
	}
	r[i] = without(r[i], t)
	return 1
}

// match compares queues in cells with rows.
type match struct {
	*testing.T
	b    *ledger
	c    *cells.Cells
	m    api.Map
	at   []int
	rows rows
}

// newMatch has all queues of the map's monitors, which are empty; the Next of each thread contains what the number says, from which nothing may follow.
func newMatch(t *testing.T, m api.Map, stale uint64) *match {
	x := &match{T: t, b: &ledger{cells: make([]uint64, m.Size())}, m: m}
	x.c = cells.Over(x.b)
	for n := range m.Monitors {
		x.at = append(x.at, m.Entry(n), m.Wait(n))
	}
	for u := range m.Threads {
		x.c.Store(m.Next(u), stale)
	}
	x.rows = make(rows, len(x.at))
	return x
}

// do does one of the three on the row i and its queue, and compares them.
func (x *match) do(form, i, t int) {
	x.Helper()
	before := slices.Clone(x.rows)
	own := []int{x.at[i], x.at[i] + 1}
	for _, u := range x.rows[i] {
		own = append(own, x.m.Next(u))
	}
	var job *task.Task
	var most, want int
	switch form {
	case 0:
		own = append(own, x.m.Next(t))
		job, most, want = queue.Push(x.c, x.m, x.at[i], t), 5, x.rows.push(i, t)
	case 1:
		job, most, want = queue.Pop(x.c, x.m, x.at[i]), 4, x.rows.pop(i)
	case 2:
		job, most, want = queue.Remove(x.c, x.m, x.at[i], t), 6+2*len(before[i]), x.rows.remove(i, t)
	}
	x.finish(job, most, want, own, before)
	for j, l := range x.rows {
		wantQueue(x.T, x.c, x.m, x.at[j], l...)
	}
}

// finish takes the steps of the task: each is one operation on one of its own cells, and each queue is what it was till one of them, and from then on what it will be.
func (x *match) finish(job *task.Task, most, want int, own []int, before rows) {
	x.Helper()
	old := true
	for n := 0; !job.Done(); n++ {
		x.b.done = nil
		if n == most || !job.Step(api.PickStep) || len(x.b.done) != 1 || !slices.Contains(own, x.b.done[0].cell) {
			x.Fatalf("%v in the step %d of %d, own cells %v", x.b.done, n, most, own)
		}
		for j, at := range x.at {
			got := queue.Look(x.c, x.m, at)
			old = old && slices.Equal(got, before[j])
			if !old && !slices.Equal(got, x.rows[j]) {
				x.Fatalf("the queue %d is %v after the step %d, between %v and %v", j, got, n, before, x.rows)
			}
		}
	}
	wantDone(x.T, job, want)
}

// P10.1, P10.2, P10.3, P10.4: whatever is done to a few queues of the same threads, one after the other.
func TestQueuesAreAsTheModel(t *testing.T) {
	longest, found, absent, empty := 0, 0, 0, 0
	for seed := range 80 {
		next := mixer(uint64(seed))
		m := mapOf(1+next(16), 1+next(3), 1+next(2))
		x := newMatch(t, m, uint64(next(m.Threads+2)))
		// With more pushes, the queues get longer.
		pushes := 1 + next(6)
		for range 120 {
			i, u := next(1+next(len(x.at))), next(m.Threads)
			switch form := min(next(2+pushes), 2); {
			case form == 2 && x.rows.in(u) < 0:
				x.do(0, i, u)
			case form == 1:
				if len(x.rows[i]) == 0 {
					empty++
				}
				x.do(1, i, u)
			default:
				if next(3) == 0 && x.rows.in(u) >= 0 {
					i = x.rows.in(u)
				}
				if x.rows.in(u) == i {
					found++
				} else {
					absent++
				}
				x.do(2, i, u)
			}
			longest = max(longest, len(x.rows[i]))
		}
	}
	if longest < 10 || found < 800 || absent < 800 || empty < 300 {
		t.Errorf("the longest queue has %d threads, %d were found, %d not, %d times there was none", longest, found, absent, empty)
	}
}

// P10.4: all lists of 5 of these are done, with two threads and two queues.
func TestAllListsOfTasks(t *testing.T) {
	m := mapOf(2, 1, 1)
	for l := range schedules(6, 5) {
		x := newMatch(t, m, 2)
		for _, v := range l {
			i, u := v%2, v/2%2
			switch {
			case v >= 4:
				x.do(1, i, u)
			case x.rows.in(u) < 0:
				x.do(0, i, u)
			default:
				x.do(2, i, u)
			}
		}
	}
}

// P10.4: a long queue, of which every third thread is removed.
func TestALongQueue(t *testing.T) {
	m := mapOf(1000, 2, 1)
	c, at := cells.New(m.Size()), m.Wait(0)
	var want []int
	for i := range m.Threads {
		u := i * 7 % m.Threads
		wantSteps(t, c, queue.Push(c, m, at, u), 5, 0)
		want = append(want, u)
	}
	wantQueue(t, c, m, at, want...)
	for u := 0; u < m.Threads; u += 3 {
		if v := task.Run(queue.Remove(c, m, at, u)); v != 1 {
			t.Fatalf("Remove of %d: %d", u, v)
		}
		want = without(want, u)
	}
	wantQueue(t, c, m, at, want...)
	for _, u := range want {
		wantSteps(t, c, queue.Pop(c, m, at), 4, u)
	}
	wantQueue(t, c, m, at)
}

// P10.2: Remove of the last thread, and of one that is not there, of queues of any length.
func TestStepsOfRemove(t *testing.T) {
	m := mapOf(1001, 1, 1)
	for _, n := range []int{1, 2, 3, 10, 999, 1000} {
		c, at := cells.New(m.Size()), m.Entry(0)
		for u := range n {
			task.Run(queue.Push(c, m, at, u))
		}
		wantSteps(t, c, queue.Remove(c, m, at, 1000), 6+2*n, 0)
		wantSteps(t, c, queue.Remove(c, m, at, n-1), 6+2*n, 1)
		if got := queue.Look(c, m, at); len(got) != n-1 {
			t.Fatalf("%d threads are left of %d", len(got), n)
		}
	}
}

// P10.4: tasks on different queues disturb each other in no order of their steps.
func TestQueuesAtTheSameTime(t *testing.T) {
	m := mapOf(8, 1, 2)
	for seed := range 2000 {
		next, c, all := mixer(uint64(seed)), cells.New(m.Size()), machine.New()
		ats := []int{m.Entry(0), m.Wait(0), m.Entry(1), m.Wait(1)}
		r := make(rows, len(ats))
		want := make([][]int, len(ats))
		for i, at := range ats {
			var l []*task.Task
			for range 6 {
				// Each queue has two threads of its own, so none is in two queues.
				u := 2*i + next(2)
				switch {
				case next(3) == 0:
					l, want[i] = append(l, queue.Pop(c, m, at)), append(want[i], r.pop(i))
				case r.in(u) < 0:
					l, want[i] = append(l, queue.Push(c, m, at, u)), append(want[i], r.push(i, u))
				default:
					l, want[i] = append(l, queue.Remove(c, m, at, u)), append(want[i], r.remove(i, u))
				}
			}
			all.Add(l...)
		}
		for !all.Over() {
			all.Pick(api.Pick{Thread: next(len(ats)), Kind: api.PickStep})
		}
		for i, at := range ats {
			if got := all.Values(i); !slices.Equal(got, want[i]) {
				t.Fatalf("values %v of the queue %d, want %v", got, i, want[i])
			}
			wantQueue(t, c, m, at, r[i]...)
		}
	}
}

// passage is what a thread does under a latch: it comes into the queue, and takes the first one out.
func passage(c *cells.Cells, m api.Map, t int) []*task.Task {
	guarded := func(body func() *task.Task) *task.Task { return latch.Guard(c, m.Latch(0), t, body) }
	return []*task.Task{
		guarded(func() *task.Task { return queue.Push(c, m, m.Entry(0), t) }),
		guarded(func() *task.Task { return queue.Pop(c, m, m.Entry(0)) }),
	}
}

// P10.4: threads that share a queue by a latch get each thread out once, in the order in which they came in, for all lists of 12 picks.
func TestAQueueUnderALatch(t *testing.T) {
	m := mapOf(2, 1, 1)
	for picks := range schedules(2, 12) {
		c, all := cells.New(m.Size()), machine.New()
		for u := range m.Threads {
			all.Add(passage(c, m, u)...)
		}
		came, went := playedUnderALatch(c, m, all, picks)
		if !slices.Equal(came, went) || len(came) != m.Threads {
			t.Fatalf("%v came, %v went, with the picks %v", came, went, picks)
		}
		wantQueue(t, c, m, m.Entry(0))
	}
}

// playedUnderALatch makes the picks, and then picks in turn, and returns the threads in the order in which they ended their Push, and their Pop's values in the order of these.
func playedUnderALatch(c *cells.Cells, m api.Map, all *machine.Machine, picks []int) (came, went []int) {
	for n := 0; !all.Over(); n++ {
		u := n % m.Threads
		if n < len(picks) {
			u = picks[n]
		}
		before := len(all.Values(u))
		all.Pick(api.Pick{Thread: u, Kind: api.PickStep})
		if l := all.Values(u); len(l) == 1 && before == 0 {
			came = append(came, u)
		} else if len(l) == 2 && before == 1 {
			went = append(went, l[1])
		}
	}
	return came, went
}

// The same with threads that are goroutines, over cells for concurrent use: every thread that came in goes out once.
func TestGoroutinesAtAQueue(t *testing.T) {
	m := mapOf(4, 1, 1)
	const rounds = 100
	c := atom.New(m.Size())
	went := make([][]int, m.Threads)
	// A thread is in the queue at most once, so it waits till somebody has taken it out before it comes again.
	outs := make([]chan bool, m.Threads)
	for u := range outs {
		outs[u] = make(chan bool, 1)
	}
	var all sync.WaitGroup
	for u := range m.Threads {
		all.Go(func() {
			for range rounds {
				l := passage(c, m, u)
				task.Run(l[0])
				first := task.Run(l[1])
				went[u] = append(went[u], first)
				outs[first] <- true
				<-outs[u]
			}
		})
	}
	all.Wait()
	times := make([]int, m.Threads)
	for _, l := range went {
		for _, u := range l {
			times[u]++
		}
	}
	for u, n := range times {
		if n != rounds {
			t.Errorf("the thread %d went out %d times", u, n)
		}
	}
	wantQueue(t, c, m, m.Entry(0))
}
