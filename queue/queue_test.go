package queue_test

import (
	"math"
	"slices"
	"testing"

	"doorkeeper/api"
	"doorkeeper/cells"
	"doorkeeper/queue"
	"doorkeeper/task"
)

// noSteps are kinds by which a task that is not parked takes no step.
var noSteps = []int{api.PickTime, api.PickSpurious, -1, 3, 256, 1 << 32, math.MinInt, math.MaxInt}

// few is a map of a few threads.
var few = api.Map{Threads: 5, Objects: 1, Monitors: 2}

// mapOf is the map of so many threads, objects and monitors.
func mapOf(threads, objects, monitors int) api.Map {
	return api.Map{Threads: threads, Objects: objects, Monitors: monitors}
}

// operation is what was done to which cell.
type operation struct {
	form string
	cell int
}

// ledger stores cells, and records the operations on them.
type ledger struct {
	cells []uint64
	done  []operation
}

func (b *ledger) Len() int { return len(b.cells) }

func (b *ledger) Load(i int) uint64 {
	b.done = append(b.done, operation{"load", i})
	return b.cells[i]
}

func (b *ledger) Store(i int, v uint64) {
	b.done = append(b.done, operation{"store", i})
	b.cells[i] = v
}

func (b *ledger) Swap(i int, old, new uint64) bool {
	b.done = append(b.done, operation{"swap", i})
	if b.cells[i] != old {
		return false
	}
	b.cells[i] = new
	return true
}

func (b *ledger) Add(i int, d uint64) uint64 {
	b.done = append(b.done, operation{"add", i})
	b.cells[i] += d
	return b.cells[i]
}

// broken is a back that panics whatever it is asked for, except for how many cells it has.
type broken struct{ ledger }

func (b *broken) Load(int) uint64               { panic("load") }
func (b *broken) Store(int, uint64)             { panic("store") }
func (b *broken) Swap(int, uint64, uint64) bool { panic("swap") }
func (b *broken) Add(int, uint64) uint64        { panic("add") }

// wantOpen tests that the task is about to do an operation, which no other kind of step does.
func wantOpen(t *testing.T, x *task.Task) {
	t.Helper()
	for _, kind := range noSteps {
		if x.Can(kind) || x.Step(kind) {
			t.Fatalf("a step of the kind %d", kind)
		}
	}
	if x.Done() || x.Parked() || x.Value() != 0 || !x.Can(api.PickStep) {
		t.Fatalf("Done = %v, Parked = %v, Value = %d, want an operation", x.Done(), x.Parked(), x.Value())
	}
}

// wantDone tests that the task is done, with this value, and takes no steps any more.
func wantDone(t *testing.T, x *task.Task, value int) {
	t.Helper()
	for _, kind := range append([]int{api.PickStep}, noSteps...) {
		if x.Step(kind) {
			t.Fatalf("a step of the kind %d", kind)
		}
	}
	if x == nil || !x.Done() || x.Parked() || x.Value() != value {
		t.Fatalf("Done = %v, Parked = %v, Value = %d, want the value %d", x.Done(), x.Parked(), x.Value(), value)
	}
}

// wantSteps takes all steps of the task, which are at most so many, each with one operation, and tests its value.
func wantSteps(t *testing.T, c *cells.Cells, x *task.Task, most, value int) {
	t.Helper()
	first := c.Steps()
	for n := 0; !x.Done(); n++ {
		wantOpen(t, x)
		if n == most {
			t.Fatalf("not done after %d steps", n)
		}
		if !x.Step(api.PickStep) || c.Steps() != first+n+1 {
			t.Fatalf("the step %d does %d operations", n, c.Steps()-first-n)
		}
	}
	wantDone(t, x, value)
}

// wantLook tests which threads the queue contains, and that this is no operation.
func wantLook(t *testing.T, c *cells.Cells, m api.Map, at int, want ...int) {
	t.Helper()
	steps, all := c.Steps(), c.All()
	if got := queue.Look(c, m, at); !slices.Equal(got, want) {
		t.Fatalf("Look(%d) = %v, want %v", at, got, want)
	}
	if c.Steps() != steps || !slices.Equal(c.All(), all) {
		t.Fatal("Look does an operation")
	}
}

// wantQueue tests Look, and that the cells of the queue are as the chapter's terms say.
func wantQueue(t *testing.T, c *cells.Cells, m api.Map, at int, want ...int) {
	t.Helper()
	wantLook(t, c, m, at, want...)
	all := c.All()
	first, last := uint64(0), uint64(0)
	for i, u := range want {
		behind := uint64(0)
		if i+1 < len(want) {
			behind = uint64(want[i+1] + 1)
		}
		if all[m.Next(u)] != behind {
			t.Fatalf("the Next of %d in %v is %d", u, want, all[m.Next(u)])
		}
		first, last = uint64(want[0]+1), uint64(u+1)
	}
	if all[at] != first || all[at+1] != last {
		t.Fatalf("the cells %d and %d, of %v", all[at], all[at+1], want)
	}
}

// filled returns cells of the map with these threads in the queue at; the other cells contain what is no number of a thread.
func filled(m api.Map, at int, threads ...int) *cells.Cells {
	c := cells.New(max(m.Size(), at+2))
	for i := range c.Len() {
		c.Store(i, math.MaxUint64-uint64(i))
	}
	c.Store(at, 0)
	c.Store(at+1, 0)
	link := at
	for _, u := range threads {
		c.Store(link, uint64(u+1))
		c.Store(at+1, uint64(u+1))
		link = m.Next(u)
		c.Store(link, 0)
	}
	return c
}

// without returns the threads except for one.
func without(l []int, t int) []int {
	return slices.DeleteFunc(slices.Clone(l), func(u int) bool { return u == t })
}

// lines are all queues of at most 4 of the threads below n.
func lines(n int) [][]int {
	l := [][]int{nil}
	for i := 0; i < len(l); i++ {
		for t := range n {
			if len(l[i]) < 4 && !slices.Contains(l[i], t) {
				l = append(l, append(slices.Clone(l[i]), t))
			}
		}
	}
	return l
}

// P10.1, P10.2, P10.3: each of the three, on all queues of at most 4 of 5 threads.

func TestPush(t *testing.T) {
	at := few.Wait(1)
	for _, l := range lines(few.Threads) {
		for u := range few.Threads {
			if slices.Contains(l, u) {
				continue
			}
			c := filled(few, at, l...)
			before := c.All()
			wantSteps(t, c, queue.Push(c, few, at, u), 5, 0)
			wantQueue(t, c, few, at, append(slices.Clone(l), u)...)
			wantOthersKept(t, c, before, at, append(slices.Clone(l), u)...)
		}
	}
}

func TestPop(t *testing.T) {
	at := few.Entry(0)
	for _, l := range lines(few.Threads) {
		c := filled(few, at, l...)
		before := c.All()
		if len(l) == 0 {
			wantSteps(t, c, queue.Pop(c, few, at), 4, -1)
			if got := c.All(); !slices.Equal(got, before) {
				t.Fatalf("cells %v after Pop of an empty queue, were %v", got, before)
			}
			continue
		}
		wantSteps(t, c, queue.Pop(c, few, at), 4, l[0])
		wantQueue(t, c, few, at, l[1:]...)
		wantOthersKept(t, c, before, at, l...)
	}
}

func TestRemove(t *testing.T) {
	at := few.Entry(1)
	for _, l := range lines(few.Threads) {
		for u := range few.Threads {
			c := filled(few, at, l...)
			before := c.All()
			x := queue.Remove(c, few, at, u)
			if !slices.Contains(l, u) {
				wantSteps(t, c, x, 6+2*len(l), 0)
				if got := c.All(); !slices.Equal(got, before) {
					t.Fatalf("cells %v after Remove of %d from %v, were %v", got, u, l, before)
				}
				continue
			}
			wantSteps(t, c, x, 6+2*len(l), 1)
			wantQueue(t, c, few, at, without(l, u)...)
			wantOthersKept(t, c, before, at, l...)
		}
	}
}

// wantOthersKept tests that only cells of the queue, and the Next of these threads, have changed.
func wantOthersKept(t *testing.T, c *cells.Cells, before []uint64, at int, threads ...int) {
	t.Helper()
	own := []int{at, at + 1}
	for _, u := range threads {
		own = append(own, few.Next(u))
	}
	for i, v := range c.All() {
		if v != before[i] && !slices.Contains(own, i) {
			t.Fatalf("the cell %d is %d, was %d", i, v, before[i])
		}
	}
}

// A thread that has left a queue has none behind it any more, so that what it was in is not reached from it.
func TestNoThreadIsBehindOneThatHasLeft(t *testing.T) {
	at := few.Entry(0)
	for _, l := range lines(few.Threads)[1:] {
		c := filled(few, at, l...)
		task.Run(queue.Pop(c, few, at))
		if v := c.Load(few.Next(l[0])); v != 0 {
			t.Fatalf("the Next of %d is %d after Pop from %v", l[0], v, l)
		}
		for _, u := range l {
			c := filled(few, at, l...)
			task.Run(queue.Remove(c, few, at, u))
			if v := c.Load(few.Next(u)); v != 0 {
				t.Fatalf("the Next of %d is %d after Remove from %v", u, v, l)
			}
		}
	}
}

// The chapter's example.
func TestExample(t *testing.T) {
	m := api.Map{Threads: 3, Objects: 1, Monitors: 1}
	c := cells.New(m.Size())
	at := m.Wait(0)
	for _, u := range []int{2, 0, 1} {
		wantSteps(t, c, queue.Push(c, m, at, u), 5, 0)
	}
	wantQueue(t, c, m, at, 2, 0, 1)
	wantSteps(t, c, queue.Remove(c, m, at, 0), 12, 1)
	wantSteps(t, c, queue.Remove(c, m, at, 0), 10, 0)
	wantQueue(t, c, m, at, 2, 1)
	for _, want := range []int{2, 1, -1} {
		wantSteps(t, c, queue.Pop(c, m, at), 4, want)
	}
	wantQueue(t, c, m, at)
}

// P10.1: of two queues of the same threads, only the one that is named loses a thread.
func TestRemoveOfAThreadInAnotherQueue(t *testing.T) {
	m, entry, wait := few, few.Entry(0), few.Wait(0)
	c := cells.New(m.Size())
	for _, u := range []int{0, 2} {
		task.Run(queue.Push(c, m, entry, u))
	}
	for _, u := range []int{4, 1, 3} {
		task.Run(queue.Push(c, m, wait, u))
	}
	before := c.All()
	for _, u := range []int{4, 1, 3} {
		wantSteps(t, c, queue.Remove(c, m, entry, u), 10, 0)
	}
	for _, u := range []int{0, 2} {
		wantSteps(t, c, queue.Remove(c, m, wait, u), 12, 0)
	}
	if got := c.All(); !slices.Equal(got, before) {
		t.Fatalf("cells %v, were %v", got, before)
	}
	wantQueue(t, c, m, entry, 0, 2)
	wantQueue(t, c, m, wait, 4, 1, 3)
}

// P10.1: what the queue contains counts when the steps are taken, not when the task is made.
func TestTasksSeeTheQueueInTheirSteps(t *testing.T) {
	m, at := few, few.Entry(0)
	c := cells.New(m.Size())
	pop, remove, push := queue.Pop(c, m, at), queue.Remove(c, m, at, 1), queue.Push(c, m, at, 3)
	if c.Steps() != 0 {
		t.Fatal("an operation before the first step")
	}
	for _, u := range []int{0, 1, 2} {
		task.Run(queue.Push(c, m, at, u))
	}
	wantSteps(t, c, push, 5, 0)
	wantQueue(t, c, m, at, 0, 1, 2, 3)
	wantSteps(t, c, remove, 14, 1)
	wantSteps(t, c, pop, 4, 0)
	wantQueue(t, c, m, at, 2, 3)
}

// P10.2: at the limits of what is right.

func TestTheLastThreadAndTheLastCells(t *testing.T) {
	for _, m := range []api.Map{mapOf(1, 1, 0), mapOf(2, 7, 0), mapOf(3, 1, 3), mapOf(api.MaxThreads, 1, 1)} {
		for _, more := range []int{0, 1, 2, 9} {
			c := cells.New(m.Size() + more)
			at, t0 := c.Len()-2, m.Threads-1
			if more < 2 {
				at = m.PoolLatch()
			}
			wantSteps(t, c, queue.Push(c, m, at, t0), 5, 0)
			wantQueue(t, c, m, at, t0)
			if t0 > 0 {
				wantSteps(t, c, queue.Push(c, m, at, 0), 5, 0)
				wantQueue(t, c, m, at, t0, 0)
			}
			wantSteps(t, c, queue.Remove(c, m, at, t0), 10, 1)
			if t0 > 0 {
				wantSteps(t, c, queue.Pop(c, m, at), 4, 0)
			}
			wantQueue(t, c, m, at)
		}
	}
}

// The cells at and at + 1 are a queue, too, if they are a map's last ones.
func TestTheMapsLastCells(t *testing.T) {
	m := api.Map{Threads: 2, Objects: 1, Monitors: 1}
	c := cells.New(m.Size())
	at := m.Size() - 2
	wantSteps(t, c, queue.Push(c, m, at, 1), 5, 0)
	wantSteps(t, c, queue.Push(c, m, at, 0), 5, 0)
	wantQueue(t, c, m, at, 1, 0)
}

// refusal is arguments with which nothing is done.
type refusal struct {
	c     *cells.Cells
	m     api.Map
	at, t int
}

// wantRefused tests that the tasks are done at once, and that nothing is looked at, or changed; t counts for two of them alone.
func wantRefused(t *testing.T, r refusal, evenWithoutThread bool) {
	t.Helper()
	steps, all := r.c.Steps(), r.c.All()
	wantDone(t, queue.Push(r.c, r.m, r.at, r.t), -1)
	wantDone(t, queue.Remove(r.c, r.m, r.at, r.t), -1)
	if evenWithoutThread {
		wantDone(t, queue.Pop(r.c, r.m, r.at), -1)
		if got := queue.Look(r.c, r.m, r.at); len(got) != 0 {
			t.Fatalf("Look = %v", got)
		}
	}
	if r.c.Steps() != steps || !slices.Equal(r.c.All(), all) {
		t.Fatalf("operations with %v", r)
	}
}

// some returns cells, as many, with a queue at the cells 0 and 1, and 2 and 3, of the first thread.
func some(n int) *cells.Cells {
	c := cells.New(n)
	for i := range n {
		c.Store(i, 1)
	}
	return c
}

func TestRefusedCells(t *testing.T) {
	for _, m := range []api.Map{few, mapOf(1, 1, 0), mapOf(1, 1, 1), mapOf(9, 4, 0)} {
		wantRefused(t, refusal{nil, m, 0, 0}, true)
		wantRefused(t, refusal{&cells.Cells{}, m, 0, 0}, true)
		for _, n := range []int{0, 1, 2, m.Size() / 2, m.Size() - 2, m.Size() - 1} {
			wantRefused(t, refusal{some(n), m, 0, 0}, true)
		}
		wantDone(t, queue.Push(some(m.Size()-1), m, 0, 0), -1)
		if queue.Push(some(m.Size()), m, 0, 0).Done() {
			t.Fatalf("refused with all cells of %v", m)
		}
	}
}

func TestRefusedMaps(t *testing.T) {
	c := some(1 << 18)
	const least, most = math.MinInt, math.MaxInt
	for _, m := range []api.Map{
		{}, mapOf(0, 1, 0), mapOf(-1, 1, 0), mapOf(1, 0, 0), mapOf(1, -1, 0), mapOf(1, 1, -1),
		mapOf(api.MaxThreads+1, 1, 0), mapOf(1, api.MaxObjects+1, 0), mapOf(1, 1, api.MaxMonitors+1),
		mapOf(least, 1, 1), mapOf(1, least, 1), mapOf(1, 1, least), mapOf(most, 1, 1), mapOf(1, most, 1), mapOf(1, 1, most),
		mapOf(1<<61, 1, 0), mapOf(1<<32, 1, 0), mapOf(1, 1<<32, 0), mapOf(1, 1, 1<<61),
	} {
		for _, at := range []int{0, 8} {
			wantRefused(t, refusal{c, m, at, 0}, true)
		}
	}
}

func TestRefusedQueues(t *testing.T) {
	for _, more := range []int{0, 1, 7} {
		c := some(few.Size() + more)
		for _, at := range []int{-1, -2, math.MinInt, math.MinInt + 1, c.Len() - 1, c.Len(), c.Len() + 1, math.MaxInt - 1, math.MaxInt, 1 << 32, -1 << 32} {
			wantRefused(t, refusal{c, few, at, 0}, true)
		}
		if queue.Push(c, few, c.Len()-2, 0).Done() {
			t.Fatal("refused at the last two cells")
		}
	}
}

func TestRefusedThreads(t *testing.T) {
	for _, m := range []api.Map{few, mapOf(1, 1, 0)} {
		c := some(m.Size())
		for _, u := range []int{-1, -2, m.Threads, m.Threads + 1, api.MaxThreads, 1 << 32, -1 << 32, math.MinInt, math.MaxInt} {
			wantRefused(t, refusal{c, m, 0, u}, false)
		}
		if queue.Push(c, m, 0, m.Threads-1).Done() {
			t.Fatal("refused for the last thread")
		}
	}
}

// P10.3: Look

// What Look returns belongs to the caller.
func TestLookIsTheCallers(t *testing.T) {
	at := few.Entry(0)
	c := filled(few, at, 3, 1, 2)
	before := c.All()
	l := queue.Look(c, few, at)
	for i := range l {
		l[i] = 4
	}
	l = append(l, 0)
	wantLook(t, c, few, at, 3, 1, 2)
	if !slices.Equal(c.All(), before) || len(l) != 4 {
		t.Fatal("the cells have changed")
	}
}

// The queue ends at a number that is no thread's; none of the tasks has to do with other cells then, either.
func TestNumbersOfNoThread(t *testing.T) {
	m, at := few, few.Entry(0)
	for _, v := range []uint64{0, uint64(m.Threads) + 1, uint64(m.Size()), 1 << 32, 1<<32 + 1, 1 << 63, 1<<63 + 1, math.MaxUint64} {
		for _, l := range [][]int{nil, {1}, {3, 0}} {
			for _, do := range []func(c *cells.Cells) *task.Task{
				func(c *cells.Cells) *task.Task { return queue.Push(c, m, at, 4) },
				func(c *cells.Cells) *task.Task { return queue.Pop(c, m, at) },
				func(c *cells.Cells) *task.Task { return queue.Remove(c, m, at, 0) },
			} {
				b := &ledger{cells: filled(m, at, l...).All()}
				c := cells.Over(b)
				own := []int{at, at + 1, m.Next(4)}
				for _, u := range l {
					own = append(own, m.Next(u))
				}
				link := at
				if len(l) > 0 {
					link = m.Next(l[len(l)-1])
				}
				b.cells[link] = v
				wantLook(t, c, m, at, l...)
				b.done = nil
				task.Run(do(c))
				wantOperations(t, b, own...)
			}
		}
	}
}

// wantOperations tests that all operations were on these cells.
func wantOperations(t *testing.T, b *ledger, own ...int) {
	t.Helper()
	for _, o := range b.done {
		if !slices.Contains(own, o.cell) {
			t.Fatalf("operations %v, want only %v", b.done, own)
		}
	}
}

// Which threads there are, the first cell tells: a queue without one is empty, and can be filled, whatever the last cell contains.
func TestTheFirstCellTellsWhetherThereAreThreads(t *testing.T) {
	m, at := few, few.Wait(0)
	for _, v := range []uint64{0, 1, 3, 5, 6, math.MaxUint64} {
		b := &ledger{cells: filled(m, at).All()}
		c := cells.Over(b)
		c.Store(at+1, v)
		before := c.All()
		wantLook(t, c, m, at)
		wantSteps(t, c, queue.Pop(c, m, at), 4, -1)
		wantSteps(t, c, queue.Remove(c, m, at, 2), 6, 0)
		if !slices.Equal(c.All(), before) {
			t.Fatalf("the cells have changed, with %d as the last one", v)
		}
		b.done = nil
		wantSteps(t, c, queue.Push(c, m, at, 2), 5, 0)
		wantOperations(t, b, at, at+1, m.Next(2))
		wantQueue(t, c, m, at, 2)
	}
}

// Likewise, a queue's only thread is its last one.
func TestTheOnlyThreadIsTheLastOne(t *testing.T) {
	m, at := few, few.Wait(0)
	for _, v := range []uint64{0, 6, 1 << 32, math.MaxUint64} {
		c := filled(m, at, 3)
		c.Store(at+1, v)
		wantLook(t, c, m, at, 3)
		wantSteps(t, c, queue.Push(c, m, at, 1), 5, 0)
		wantQueue(t, c, m, at, 3, 1)
	}
}

// Threads that lead back to one another are no queue; but nothing goes on for ever, and no thread is there more often than once.
func TestThreadsInACircle(t *testing.T) {
	m, at := few, few.Entry(1)
	for _, l := range lines(m.Threads)[1:] {
		for _, back := range l {
			c := filled(m, at, l...)
			c.Store(m.Next(l[len(l)-1]), uint64(back+1))
			wantLook(t, c, m, at, l...)
			for u := range m.Threads {
				if !slices.Contains(l, u) {
					before := c.All()
					wantSteps(t, c, queue.Remove(c, m, at, u), 6+2*len(l), 0)
					if !slices.Equal(c.All(), before) {
						t.Fatalf("Remove of %d from %v", u, l)
					}
				}
			}
		}
	}
}

// A thread that is pushed though it is in the queue: nothing is promised, but that all ends, with no more threads than there are.
func TestPushOfAThreadThatIsThere(t *testing.T) {
	m, at := few, few.Entry(1)
	for _, l := range lines(m.Threads)[1:] {
		for _, u := range l {
			c := filled(m, at, l...)
			wantSteps(t, c, queue.Push(c, m, at, u), 5, 0)
			if got := queue.Look(c, m, at); len(got) > m.Threads {
				t.Fatalf("Look = %v", got)
			}
			for v := range m.Threads {
				task.Run(queue.Remove(c, m, at, v))
				task.Run(queue.Pop(c, m, at))
			}
		}
	}
}

// Cells whose back panics contain nothing: so the queue is empty, and no operation is counted.
func TestABackThatPanics(t *testing.T) {
	b := &broken{ledger{cells: make([]uint64, few.Size())}}
	c := cells.Over(b)
	at := few.Entry(0)
	if v := task.Run(queue.Push(c, few, at, 1)); v != 0 {
		t.Error(v)
	}
	if v := task.Run(queue.Pop(c, few, at)); v != -1 {
		t.Error(v)
	}
	if v := task.Run(queue.Remove(c, few, at, 1)); v != 0 {
		t.Error(v)
	}
	if l := queue.Look(c, few, at); len(l) != 0 || c.Steps() != 0 {
		t.Error(l, c.Steps())
	}
}
