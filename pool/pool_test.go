package pool_test

import (
	"math"
	"slices"
	"testing"

	"doorkeeper/api"
	"doorkeeper/cells"
	"doorkeeper/pool"
	"doorkeeper/task"
)

const (
	// mostSteps is how many steps Take and Back have while no other thread is under the latch.
	mostSteps = 9
	// oneOver is the mark of no monitor of the map few.
	oneOver = 6
)

// few is a map of a few monitors.
var few = api.Map{Threads: 3, Objects: 2, Monitors: 5}

// noSteps are kinds by which a task that is not parked takes no step.
var noSteps = []int{api.PickTime, api.PickSpurious, -1, 3, 1 << 32, math.MinInt, math.MaxInt}

// mapOf is the map of so many threads, objects and monitors.
func mapOf(threads, objects, monitors int) api.Map {
	return api.Map{Threads: threads, Objects: objects, Monitors: monitors}
}

// operation is what was done to which cell.
type operation struct {
	form string
	cell int
}

// ledger stores cells, and records the operations on them.
type ledger struct {
	cells []uint64
	done  []operation
}

func (b *ledger) Len() int { return len(b.cells) }

func (b *ledger) Load(i int) uint64 {
	b.done = append(b.done, operation{"load", i})
	return b.cells[i]
}

func (b *ledger) Store(i int, v uint64) {
	b.done = append(b.done, operation{"store", i})
	b.cells[i] = v
}

func (b *ledger) Swap(i int, old, new uint64) bool {
	b.done = append(b.done, operation{"swap", i})
	if b.cells[i] != old {
		return false
	}
	b.cells[i] = new
	return true
}

func (b *ledger) Add(i int, d uint64) uint64 {
	b.done = append(b.done, operation{"add", i})
	b.cells[i] += d
	return b.cells[i]
}

// wantDone tests that the task is done, with this value, and takes no steps any more.
func wantDone(t *testing.T, x *task.Task, value int) {
	t.Helper()
	for _, kind := range append([]int{api.PickStep}, noSteps...) {
		if x.Step(kind) {
			t.Fatalf("a step of the kind %d", kind)
		}
	}
	if x == nil || !x.Done() || x.Parked() || x.Value() != value {
		t.Fatalf("Done = %v, Parked = %v, Value = %d, want the value %d", x.Done(), x.Parked(), x.Value(), value)
	}
}

// wantStep takes a step of the task, which is one operation, and which no other kind of step is.
func wantStep(t *testing.T, c *cells.Cells, x *task.Task) {
	t.Helper()
	for _, kind := range noSteps {
		if x.Can(kind) || x.Step(kind) {
			t.Fatalf("a step of the kind %d", kind)
		}
	}
	steps := c.Steps()
	if x.Parked() || x.Value() != 0 || !x.Can(api.PickStep) || !x.Step(api.PickStep) || c.Steps() != steps+1 {
		t.Fatalf("no step of one operation; Done = %v, Parked = %v, Value = %d", x.Done(), x.Parked(), x.Value())
	}
}

// wantSteps takes all steps of the task, and tests its value, and that they are not too many.
func wantSteps(t *testing.T, c *cells.Cells, x *task.Task, value int) {
	t.Helper()
	for n := 0; !x.Done(); n++ {
		if n == mostSteps {
			t.Fatalf("not done after %d steps", n)
		}
		wantStep(t, c, x)
	}
	wantDone(t, x, value)
}

// wantFree tests which monitors are in the pool, and that this is no operation.
func wantFree(t *testing.T, c *cells.Cells, m api.Map, want ...int) {
	t.Helper()
	steps, all := c.Steps(), c.All()
	if got := pool.Free(c, m); !slices.Equal(got, want) {
		t.Fatalf("Free = %v, want %v", got, want)
	}
	if c.Steps() != steps || !slices.Equal(c.All(), all) {
		t.Fatal("Free does an operation")
	}
}

// wantPool tests Free, and that the cells of the pool are as the chapter's terms say.
func wantPool(t *testing.T, c *cells.Cells, m api.Map, want ...int) {
	t.Helper()
	wantFree(t, c, m, want...)
	link := m.PoolHead()
	for _, n := range want {
		if v := c.Load(link); v != uint64(n+1) {
			t.Fatalf("the cell %d is %d, of the pool %v", link, v, want)
		}
		link = m.Link(n)
	}
	if v := c.Load(link); v != 0 {
		t.Fatalf("the last cell %d is %d, of the pool %v", link, v, want)
	}
}

// wantOthersKept tests that only these cells have changed.
func wantOthersKept(t *testing.T, c *cells.Cells, before []uint64, own ...int) {
	t.Helper()
	for i, v := range c.All() {
		if v != before[i] && !slices.Contains(own, i) {
			t.Fatalf("the cell %d is %d, was %d", i, v, before[i])
		}
	}
}

// wantKept tests that no cell has changed.
func wantKept(t *testing.T, c *cells.Cells, before []uint64) {
	t.Helper()
	wantOthersKept(t, c, before)
}

// stuffed returns so many cells that contain what is neither free, nor the number of a monitor.
func stuffed(n int) *cells.Cells {
	c := cells.New(n)
	for i := range n {
		c.Store(i, math.MaxUint64-uint64(i))
	}
	return c
}

// filled returns cells of the map with these monitors in the pool, whose latch no thread holds; the Gen of each monitor is 0.
func filled(m api.Map, monitors ...int) *cells.Cells {
	c := stuffed(m.Size())
	c.Store(m.PoolLatch(), 0)
	for n := range m.Monitors {
		c.Store(m.Gen(n), 0)
	}
	link := m.PoolHead()
	for _, n := range monitors {
		c.Store(link, uint64(n+1))
		link = m.Link(n)
	}
	c.Store(link, 0)
	return c
}

// links returns the cells that say which monitors are in the pool, and in which order.
func links(m api.Map) []int {
	l := []int{m.PoolHead()}
	for n := range m.Monitors {
		l = append(l, m.Link(n))
	}
	return l
}

// pools are all lists of different monitors of the map.
func pools(m api.Map) [][]int {
	l := [][]int{nil}
	for i := 0; i < len(l); i++ {
		for n := range m.Monitors {
			if !slices.Contains(l[i], n) {
				l = append(l, append(slices.Clone(l[i]), n))
			}
		}
	}
	return l
}

// ahead returns the list with the monitor in front of it.
func ahead(n int, l []int) []int {
	return append([]int{n}, l...)
}

// upTo returns the numbers below n.
func upTo(n int) []int {
	var l []int
	for i := range n {
		l = append(l, i)
	}
	return l
}

// The chapter's examples.
func TestExamples(t *testing.T) {
	m := mapOf(1, 1, 3)
	c := cells.New(m.Size())
	if !pool.Lay(c, m) {
		t.Fatal("not laid")
	}
	wantPool(t, c, m, 0, 1, 2)
	wantSteps(t, c, pool.Take(c, m, 0), 0)
	wantSteps(t, c, pool.Take(c, m, 0), 1)
	wantPool(t, c, m, 2)
	wantSteps(t, c, pool.Back(c, m, 0, 0), 1)
	wantSteps(t, c, pool.Back(c, m, 0, 1), 1)
	wantPool(t, c, m, 1, 0, 2)
	c.Store(m.Gen(1), api.MaxGen)
	wantSteps(t, c, pool.Take(c, m, 0), 1)
	wantSteps(t, c, pool.Back(c, m, 0, 1), 0)
	wantPool(t, c, m, 0, 2)
}

// P11.1: Lay

func TestLay(t *testing.T) {
	for _, m := range []api.Map{
		mapOf(1, 1, 0), mapOf(1, 1, 1), mapOf(1, 1, 2), mapOf(3, 7, 3), few, mapOf(2, 1, 100), mapOf(1, 1, api.MaxMonitors),
		mapOf(api.MaxThreads, 1, 2), mapOf(1, api.MaxObjects, 2), mapOf(api.MaxThreads, api.MaxObjects, api.MaxMonitors),
	} {
		for _, more := range []int{0, 1, 20} {
			c := stuffed(m.Size() + more)
			before := c.All()
			if !pool.Lay(c, m) {
				t.Fatalf("%v is not laid", m)
			}
			wantPool(t, c, m, upTo(m.Monitors)...)
			if m.Monitors < 1000 && m.Size() < 1000 {
				wantOthersKept(t, c, before, links(m)...)
			}
		}
	}
}

// All monitors are in the pool, whatever was in it, and whatever their generations are.
func TestLayOnceMore(t *testing.T) {
	for _, l := range pools(few) {
		c := filled(few, l...)
		c.Store(few.Gen(2), api.MaxGen)
		before := c.All()
		if !pool.Lay(c, few) {
			t.Fatal("not laid")
		}
		wantPool(t, c, few, 0, 1, 2, 3, 4)
		wantOthersKept(t, c, before, links(few)...)
	}
}

// strangeMaps are maps that are not valid; of some, the size has gone round.
func strangeMaps() []api.Map {
	const least, most = math.MinInt, math.MaxInt
	return []api.Map{
		{}, mapOf(0, 1, 1), mapOf(-1, 1, 1), mapOf(1, 0, 1), mapOf(1, -1, 1), mapOf(1, 1, -1),
		mapOf(api.MaxThreads+1, 1, 1), mapOf(1, api.MaxObjects+1, 1), mapOf(1, 1, api.MaxMonitors+1),
		mapOf(least, 1, 1), mapOf(1, least, 1), mapOf(1, 1, least), mapOf(most, 1, 1), mapOf(1, most, 1), mapOf(1, 1, most),
		mapOf(1<<61, 1, 1), mapOf(1<<32, 1, 1), mapOf(1, 1<<32, 1), mapOf(1, 1, 1<<61),
	}
}

// some returns so many cells; whoever read them as those of a map would find a monitor in its pool, and a latch that is free.
func some(n int) *cells.Cells {
	c := cells.New(n)
	for i := 1; i < n; i++ {
		c.Store(i, 1)
	}
	return c
}

// wantNothing tests that, with these arguments, there is no pool, and that nothing is done.
func wantNothing(t *testing.T, c *cells.Cells, m api.Map) {
	t.Helper()
	steps, all := c.Steps(), c.All()
	if pool.Lay(c, m) {
		t.Fatalf("laid with %d cells, of %v", c.Len(), m)
	}
	if l := pool.Free(c, m); len(l) != 0 {
		t.Fatalf("Free = %v with %d cells, of %v", l, c.Len(), m)
	}
	wantDone(t, pool.Take(c, m, 0), -1)
	wantDone(t, pool.Back(c, m, 0, 0), 0)
	if c.Steps() != steps {
		t.Fatalf("operations with %d cells, of %v", c.Len(), m)
	}
	wantKept(t, c, all)
}

func TestMapsThatAreNotValid(t *testing.T) {
	c := some(1 << 19)
	for _, m := range strangeMaps() {
		wantNothing(t, c, m)
	}
}

func TestTooFewCells(t *testing.T) {
	for _, m := range []api.Map{few, mapOf(1, 1, 0), mapOf(1, 1, 1), mapOf(9, 4, 2), mapOf(1, 1, api.MaxMonitors)} {
		wantNothing(t, nil, m)
		wantNothing(t, &cells.Cells{}, m)
		for _, n := range []int{0, 1, 2, m.Size() / 2, m.Size() - 2, m.Size() - 1} {
			wantNothing(t, some(n), m)
		}
		if c := some(m.Size()); !pool.Lay(c, m) || pool.Take(c, m, 0).Done() {
			t.Fatalf("refused with all cells of %v", m)
		}
	}
}

// P11.1: Free

func TestFree(t *testing.T) {
	for _, l := range pools(few) {
		wantFree(t, filled(few, l...), few, l...)
	}
}

// What Free returns belongs to the caller.
func TestFreeIsTheCallers(t *testing.T) {
	c := filled(few, 3, 1, 2)
	before := c.All()
	l := pool.Free(c, few)
	for i := range l {
		l[i] = 4
	}
	l = append(l, 0)
	wantFree(t, c, few, 3, 1, 2)
	wantKept(t, c, before)
	if len(l) != 4 {
		t.Fatal(l)
	}
}

// Whoever holds the latch, Free looks at the pool all the same.
func TestFreeUnderTheLatch(t *testing.T) {
	c := filled(few, 4, 0)
	for _, v := range []uint64{0, 1, 3, math.MaxUint64} {
		c.Store(few.PoolLatch(), v)
		wantFree(t, c, few, 4, 0)
	}
}

// The list ends ahead of a monitor that would be repeated.
func TestMonitorsInACircle(t *testing.T) {
	for _, l := range pools(few)[1:] {
		for _, n := range l {
			c := filled(few, l...)
			c.Store(few.Link(l[len(l)-1]), uint64(n+1))
			wantFree(t, c, few, l...)
		}
	}
}

// noMarks are numbers, apart from 0, that are those of no monitor of the map.
var noMarks = []uint64{oneOver, oneOver + 1, 52, 1 << 31, 1 << 32, 1<<32 + 1, 1 << 63, 1<<63 + 1, math.MaxUint64 - 1, math.MaxUint64}

// The list ends ahead of a monitor that does not exist; Take has none then.
func TestMonitorsThatDoNotExist(t *testing.T) {
	for _, v := range noMarks {
		for _, l := range [][]int{nil, {1}, {4, 0}} {
			c := filled(few, l...)
			link := few.PoolHead()
			if len(l) > 0 {
				link = few.Link(l[len(l)-1])
			}
			c.Store(link, v)
			wantFree(t, c, few, l...)
			for _, n := range l {
				wantSteps(t, c, pool.Take(c, few, 0), n)
			}
			wantFree(t, c, few)
			before := c.All()
			wantSteps(t, c, pool.Take(c, few, 0), -1)
			wantKept(t, c, before)
			wantSteps(t, c, pool.Back(c, few, 0, 3), 1)
			wantFree(t, c, few, 3)
		}
	}
}

// P11.2: Take

func TestTake(t *testing.T) {
	for _, l := range pools(few) {
		for u := range few.Threads {
			c := filled(few, l...)
			before := c.All()
			if len(l) == 0 {
				wantSteps(t, c, pool.Take(c, few, u), -1)
				wantPool(t, c, few)
				wantKept(t, c, before)
				continue
			}
			wantSteps(t, c, pool.Take(c, few, u), l[0])
			wantPool(t, c, few, l[1:]...)
			wantOthersKept(t, c, before, links(few)...)
		}
	}
}

// Of a monitor in the pool, the generation does not matter.
func TestTakeWithAnyGen(t *testing.T) {
	for _, gen := range []uint64{0, 1, api.MaxGen - 1, api.MaxGen, api.MaxGen + 1, math.MaxUint64} {
		c := filled(few, 2, 3)
		c.Store(few.Gen(2), gen)
		wantSteps(t, c, pool.Take(c, few, 0), 2)
		wantPool(t, c, few, 3)
		if v := c.Load(few.Gen(2)); v != gen {
			t.Fatalf("the Gen is %d, was %d", v, gen)
		}
	}
}

// P11.2: Back

func TestBack(t *testing.T) {
	for _, l := range pools(few) {
		for n := range few.Monitors {
			if slices.Contains(l, n) {
				continue
			}
			for u := range few.Threads {
				c := filled(few, l...)
				before := c.All()
				wantSteps(t, c, pool.Back(c, few, u, n), 1)
				wantPool(t, c, few, ahead(n, l)...)
				wantOthersKept(t, c, before, few.PoolHead(), few.Link(n))
			}
		}
	}
}

// gens are numbers of generations, and whether a monitor with each of them is put into the pool.
var gens = []struct {
	gen uint64
	put int
}{
	{0, 1}, {1, 1}, {2, 1}, {1000, 1}, {4093, 1}, {api.MaxGen - 1, 1},
	{api.MaxGen, 0}, {api.MaxGen + 1, 0}, {api.MaxGen + 2, 0}, {1 << 16, 0}, {1 << 32, 0}, {1<<32 + 1, 0},
	{1<<63 - 1, 0}, {1 << 63, 0}, {1<<63 + 1, 0}, {math.MaxUint64 - 1, 0}, {math.MaxUint64, 0}, {1<<64 - 1<<31, 0},
}

func TestBackByGen(t *testing.T) {
	for _, g := range gens {
		for _, l := range [][]int{nil, {0}, {4, 1, 0, 3}} {
			c := filled(few, l...)
			// Of the other monitors, the generations do not matter.
			for n := range few.Monitors {
				c.Store(few.Gen(n), g.gen^api.MaxGen)
			}
			c.Store(few.Gen(2), g.gen)
			before := c.All()
			wantSteps(t, c, pool.Back(c, few, 1, 2), g.put)
			if g.put == 1 {
				wantPool(t, c, few, ahead(2, l)...)
				wantOthersKept(t, c, before, few.PoolHead(), few.Link(2))
				continue
			}
			wantPool(t, c, few, l...)
			wantKept(t, c, before)
		}
	}
}

// Monitors that do not exist are not put into the pool.
func TestBackOfMonitorsThatDoNotExist(t *testing.T) {
	for _, m := range []api.Map{few, mapOf(1, 1, 0), mapOf(1, 1, 1), mapOf(5, 1, 2)} {
		for _, n := range []int{-1, -2, m.Monitors, m.Monitors + 1, api.MaxMonitors, 1 << 32, -1 << 32, 1 << 61, math.MinInt, math.MaxInt} {
			c := cells.New(m.Size() + 40)
			pool.Lay(c, m)
			before := c.All()
			wantSteps(t, c, pool.Back(c, m, 0, n), 0)
			wantPool(t, c, m, upTo(m.Monitors)...)
			wantKept(t, c, before)
		}
	}
}

// The last monitor of a map, of as many as there may be, is one as others are.
func TestTheLastMonitor(t *testing.T) {
	m := mapOf(1, 1, api.MaxMonitors)
	c := cells.New(m.Size())
	n := m.Monitors - 1
	wantSteps(t, c, pool.Back(c, m, 0, n), 1)
	wantPool(t, c, m, n)
	wantSteps(t, c, pool.Back(c, m, 0, 0), 1)
	wantPool(t, c, m, 0, n)
	wantSteps(t, c, pool.Take(c, m, 0), 0)
	wantSteps(t, c, pool.Take(c, m, 0), n)
	wantSteps(t, c, pool.Take(c, m, 0), -1)
	wantPool(t, c, m)
}

// P11.2, the latch

// works are tasks on the pool with the monitors 3 and 1, which the monitor 0 is not in, and 2 has its last generation.
var works = []struct {
	make  func(c *cells.Cells, u int) *task.Task
	value int
	after []int
}{
	{func(c *cells.Cells, u int) *task.Task { return pool.Take(c, few, u) }, 3, []int{1}},
	{func(c *cells.Cells, u int) *task.Task { return pool.Back(c, few, u, 0) }, 1, []int{0, 3, 1}},
	{func(c *cells.Cells, u int) *task.Task { return pool.Back(c, few, u, 2) }, 0, []int{3, 1}},
}

// newWorks returns the cells that they work on.
func newWorks() (*ledger, *cells.Cells) {
	b := &ledger{cells: filled(few, 3, 1).All()}
	b.cells[few.Gen(2)] = api.MaxGen
	return b, cells.Over(b)
}

// The first step takes the latch, the last one drops it, and those between are under it; the pool changes in one of these.
func TestStepsAreUnderTheLatch(t *testing.T) {
	own := links(few)
	for n := range few.Monitors {
		own = append(own, few.Gen(n))
	}
	for _, w := range works {
		for _, u := range []int{0, 1, 2, 3, api.MaxThreads, 1 << 40, math.MaxInt} {
			b, c := newWorks()
			x := w.make(c, u)
			want := []int{3, 1}
			for n := 0; !x.Done(); n++ {
				b.done = nil
				wantStep(t, c, x)
				o := b.done[0]
				if ends := n == 0 || x.Done(); ends && o != (operation{"swap", few.PoolLatch()}) || !ends && !slices.Contains(own, o.cell) {
					t.Fatalf("the step %d does %v", n, o)
				}
				if v := b.cells[few.PoolLatch()]; !x.Done() && v != uint64(u)+1 || x.Done() && v != 0 {
					t.Fatalf("the latch is %d after the step %d of the thread %d", v, n, u)
				}
				if o == (operation{"store", few.PoolHead()}) {
					want = w.after
				}
				wantFree(t, c, few, want...)
			}
			wantDone(t, x, w.value)
			wantPool(t, c, few, w.after...)
		}
	}
}

// While another thread holds the latch, or the thread itself holds it already, each step tries once to take it, and does nothing else.
func TestTasksWaitForTheLatch(t *testing.T) {
	for _, w := range works {
		for _, holder := range []uint64{1, 2, 3, 1 << 20, math.MaxUint64} {
			b, c := newWorks()
			x := w.make(c, 1)
			b.cells[few.PoolLatch()] = holder
			before := slices.Clone(b.cells)
			for range 50 {
				b.done = nil
				wantStep(t, c, x)
				if !slices.Equal(b.done, []operation{{"swap", few.PoolLatch()}}) || x.Done() {
					t.Fatalf("%v while %d is the latch; Done = %v", b.done, holder, x.Done())
				}
			}
			if !slices.Equal(b.cells, before) {
				t.Fatalf("cells %v, were %v", b.cells, before)
			}
			b.cells[few.PoolLatch()] = 0
			wantSteps(t, c, x, w.value)
			wantPool(t, c, few, w.after...)
		}
	}
}

// What the pool and the generations are counts when the latch is taken, not when the task is made, which is no operation.
func TestTasksSeeThePoolUnderTheLatch(t *testing.T) {
	c := filled(few)
	c.Store(few.Gen(0), api.MaxGen)
	steps := c.Steps()
	take, refused, back := pool.Take(c, few, 0), pool.Back(c, few, 1, 2), pool.Back(c, few, 2, 0)
	if c.Steps() != steps {
		t.Fatal("an operation ahead of the first step")
	}
	c.Store(few.Gen(2), api.MaxGen)
	c.Store(few.Gen(0), api.MaxGen-1)
	wantSteps(t, c, pool.Back(c, few, 1, 4), 1)
	wantSteps(t, c, refused, 0)
	wantPool(t, c, few, 4)
	wantSteps(t, c, back, 1)
	wantPool(t, c, few, 0, 4)
	wantSteps(t, c, take, 0)
	wantPool(t, c, few, 4)
}

// The number of a thread below 0 is none's, so it gets no monitor, and puts none back.
func TestThreadsBelowZero(t *testing.T) {
	for _, u := range []int{-1, -2, -1 << 32, math.MinInt} {
		c := filled(few, 3, 1)
		before, steps := c.All(), c.Steps()
		wantDone(t, pool.Take(c, few, u), -1)
		wantDone(t, pool.Back(c, few, u, 0), 0)
		if c.Steps() != steps {
			t.Fatalf("operations of the thread %d", u)
		}
		wantKept(t, c, before)
	}
}

// A monitor that is put back though it is there: nothing is promised, but that all ends, and that no monitor is in the list twice.
func TestBackOfAMonitorThatIsThere(t *testing.T) {
	for _, l := range pools(few)[1:] {
		for _, n := range l {
			c := filled(few, l...)
			wantSteps(t, c, pool.Back(c, few, 0, n), 1)
			got := pool.Free(c, few)
			once := slices.Compact(slices.Sorted(slices.Values(got)))
			if got[0] != n || len(once) != len(got) {
				t.Fatalf("Free = %v after Back of %d in %v", got, n, l)
			}
			wantSteps(t, c, pool.Take(c, few, 0), n)
		}
	}
}
