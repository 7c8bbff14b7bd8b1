package latch_test

import (
	"math"
	"slices"
	"strconv"
	"testing"

	"doorkeeper/api"
	"doorkeeper/cells"
	"doorkeeper/latch"
	"doorkeeper/permit"
	"doorkeeper/task"
)

// top is the greatest value of a cell.
const top = math.MaxUint64

// someThreads are numbers of threads, the least and the greatest among them.
var someThreads = []int{0, 1, 2, 5, 254, 255, api.MaxThreads - 1, api.MaxThreads, 1 << 16, math.MaxInt32, 1 << 32, math.MaxInt - 1, math.MaxInt}

// someValues are values of tasks; by one of them a loop would go on.
var someValues = []int{0, 1, -1, 2, 7, task.Again, task.Again + 1, math.MaxInt, math.MinInt}

// absent are no cells of a few; some look right when the bits above are cut off.
var absent = []int{-1, -2, 3, 4, 1 << 16, 1 << 24, 1 << 32, 1<<32 + 1, -1 << 32, math.MinInt, math.MaxInt}

// noSteps are kinds by which a task that is not parked takes no step.
var noSteps = []int{api.PickTime, api.PickSpurious, -1, 3, 256, 1 << 32, math.MinInt, math.MaxInt}

// mark is what a latch contains that the thread holds.
func mark(thread int) uint64 { return uint64(thread) + 1 }

// ledger stores cells, and records the operations on them.
type ledger struct {
	cells []uint64
	lines []string
}

func (b *ledger) line(op string, numbers ...uint64) {
	for _, n := range numbers {
		op += " " + strconv.FormatUint(n, 10)
	}
	b.lines = append(b.lines, op)
}

func (b *ledger) Len() int { return len(b.cells) }

func (b *ledger) Load(i int) uint64 {
	b.line("load", uint64(i))
	return b.cells[i]
}

func (b *ledger) Store(i int, v uint64) {
	b.line("store", uint64(i), v)
	b.cells[i] = v
}

func (b *ledger) Swap(i int, old, new uint64) bool {
	b.line("swap", uint64(i), old, new)
	if b.cells[i] != old {
		return false
	}
	b.cells[i] = new
	return true
}

func (b *ledger) Add(i int, d uint64) uint64 {
	b.line("add", uint64(i), d)
	b.cells[i] += d
	return b.cells[i]
}

// want tests what was recorded.
func (b *ledger) want(t *testing.T, want ...string) {
	t.Helper()
	if !slices.Equal(b.lines, want) {
		t.Fatalf("operations %q, want %q", b.lines, want)
	}
}

// filled are cells with these values, without an operation so far.
func filled(values ...uint64) *cells.Cells {
	return cells.Over(&ledger{cells: slices.Clone(values)})
}

// wantCells tests what the cells contain, and the number of operations so far.
func wantCells(t *testing.T, c *cells.Cells, steps int, want ...uint64) {
	t.Helper()
	if got := c.All(); !slices.Equal(got, want) || c.Steps() != steps {
		t.Fatalf("cells %v after %d operations, want %v after %d", got, c.Steps(), want, steps)
	}
}

// wantOpen tests that the task is about to do an operation, which no other kind of step does.
func wantOpen(t *testing.T, x *task.Task) {
	t.Helper()
	for _, kind := range noSteps {
		if x.Can(kind) || x.Step(kind) {
			t.Fatalf("a step of the kind %d", kind)
		}
	}
	if x.Done() || x.Parked() || x.Value() != 0 || !x.Can(api.PickStep) {
		t.Fatalf("Done = %v, Parked = %v, Value = %d, want an operation", x.Done(), x.Parked(), x.Value())
	}
}

// wantStep takes a step of a task that is about to do an operation.
func wantStep(t *testing.T, x *task.Task) {
	t.Helper()
	wantOpen(t, x)
	if !x.Step(api.PickStep) {
		t.Fatal("no step")
	}
}

// wantDone tests that the task is done, with this value, and takes no steps any more.
func wantDone(t *testing.T, x *task.Task, value int) {
	t.Helper()
	for _, kind := range append([]int{api.PickStep}, noSteps...) {
		if x.Step(kind) {
			t.Fatalf("a step of the kind %d", kind)
		}
	}
	if !x.Done() || x.Parked() || x.Value() != value {
		t.Fatalf("Done = %v, Parked = %v, Value = %d, want the value %d", x.Done(), x.Parked(), x.Value(), value)
	}
}

// wantSteps tests that the task is done after so many steps, and has this value then.
func wantSteps(t *testing.T, x *task.Task, steps, value int) {
	t.Helper()
	for range steps {
		wantStep(t, x)
	}
	wantDone(t, x, value)
}

// wantEndless tests that the task takes steps, as long as anybody will wait.
func wantEndless(t *testing.T, x *task.Task) {
	t.Helper()
	for range 1000 {
		wantStep(t, x)
	}
	wantOpen(t, x)
}

// P9.1: Take

func TestTakeOfAFreeLatch(t *testing.T) {
	for _, thread := range someThreads {
		for at := range 3 {
			want := []uint64{7, 8, 9}
			want[at] = 0
			c := filled(want...)
			x := latch.Take(c, at, thread)
			wantCells(t, c, 0, want...)
			want[at] = mark(thread)
			wantSteps(t, x, 1, 1)
			wantCells(t, c, 1, want...)
		}
	}
}

// A latch that is held, even by the thread itself, is not taken till it is free.
func TestTakeOfALatchThatIsHeld(t *testing.T) {
	for _, thread := range someThreads {
		for _, held := range []uint64{1, 2, mark(thread), mark(thread) + 1, 1 << 32, 1 << 63, top} {
			c := filled(5, held)
			x := latch.Take(c, 1, thread)
			for n := range 20 {
				wantStep(t, x)
				wantCells(t, c, n+1, 5, held)
			}
			wantOpen(t, x)
			c.Store(1, 0)
			wantSteps(t, x, 1, 1)
			wantCells(t, c, 22, 5, mark(thread))
		}
	}
}

// A latch that was free between two steps is as good as one that was not.
func TestTakeSeesTheCellInItsSteps(t *testing.T) {
	c := filled(0)
	x := latch.Take(c, 0, 3)
	c.Store(0, 9)
	wantStep(t, x)
	c.Store(0, 0)
	c.Store(0, 9)
	wantStep(t, x)
	wantOpen(t, x)
	wantCells(t, c, 5, 9)
	c.Store(0, 0)
	wantSteps(t, x, 1, 1)
	wantCells(t, c, 7, 4)
}

func TestTakeOfCellsThatAreNotThere(t *testing.T) {
	for _, at := range absent {
		c := filled(0, 0, 0)
		wantEndless(t, latch.Take(c, at, 2))
		wantCells(t, c, 0, 0, 0, 0)
		wantEndless(t, latch.Take(nil, at, 2))
	}
	wantEndless(t, latch.Take(nil, 0, 2))
	wantEndless(t, latch.Take(cells.New(0), 0, 2))
}

func TestTakeIsExchanges(t *testing.T) {
	b := &ledger{cells: []uint64{0, 6}}
	x := latch.Take(cells.Over(b), 1, 3)
	b.want(t)
	wantStep(t, x)
	wantStep(t, x)
	b.want(t, "swap 1 0 4", "swap 1 0 4")
	b.cells[1] = 0
	wantSteps(t, x, 1, 1)
	b.want(t, "swap 1 0 4", "swap 1 0 4", "swap 1 0 4")
}

// P9.1: Drop

func TestDrop(t *testing.T) {
	for _, thread := range someThreads {
		for at := range 3 {
			want := []uint64{mark(thread), mark(thread), mark(thread)}
			c := filled(want...)
			x := latch.Drop(c, at, thread)
			wantCells(t, c, 0, want...)
			want[at] = 0
			wantSteps(t, x, 1, 1)
			wantCells(t, c, 1, want...)
		}
	}
}

// A latch that another thread holds, or none, is not dropped; the thread does not try again.
func TestDropOfALatchThatTheThreadDoesNotHold(t *testing.T) {
	for _, thread := range someThreads {
		for _, v := range []uint64{0, mark(thread) - 1, mark(thread) + 1, mark(thread) | 1<<63, top} {
			if v == mark(thread) {
				continue
			}
			c := filled(5, v)
			wantSteps(t, latch.Drop(c, 1, thread), 1, 0)
			wantCells(t, c, 1, 5, v)
		}
	}
}

func TestDropSeesTheCellInItsStep(t *testing.T) {
	c := filled(4)
	x := latch.Drop(c, 0, 3)
	c.Store(0, 5)
	wantSteps(t, x, 1, 0)
	wantCells(t, c, 2, 5)
	x = latch.Drop(c, 0, 3)
	c.Store(0, 4)
	wantSteps(t, x, 1, 1)
	wantCells(t, c, 4, 0)
}

func TestDropOfCellsThatAreNotThere(t *testing.T) {
	for _, at := range absent {
		c := filled(3, 3, 3)
		wantSteps(t, latch.Drop(c, at, 2), 1, 0)
		wantCells(t, c, 0, 3, 3, 3)
		wantSteps(t, latch.Drop(nil, at, 2), 1, 0)
	}
	wantSteps(t, latch.Drop(cells.New(0), 0, 2), 1, 0)
}

func TestDropIsAnExchange(t *testing.T) {
	for _, v := range []uint64{0, 4, 5} {
		b := &ledger{cells: []uint64{0, v}}
		x := latch.Drop(cells.Over(b), 1, 3)
		b.want(t)
		wantStep(t, x)
		b.want(t, "swap 1 4 0")
	}
}

// The first example of the chapter.
func TestTakeAndDrop(t *testing.T) {
	c := filled(0, 0)
	wantSteps(t, latch.Take(c, 0, 3), 1, 1)
	wantCells(t, c, 1, 4, 0)
	x := latch.Take(c, 0, 5)
	wantStep(t, x)
	wantStep(t, x)
	wantOpen(t, x)
	wantSteps(t, latch.Drop(c, 0, 5), 1, 0)
	wantCells(t, c, 4, 4, 0)
	wantSteps(t, latch.Drop(c, 0, 3), 1, 1)
	wantCells(t, c, 5, 0, 0)
	wantSteps(t, x, 1, 1)
	wantCells(t, c, 6, 6, 0)
}

// P9.2: Guard

// The body is called when the latch has just been taken, not before, and once.
func TestGuardCallsItsBodyThen(t *testing.T) {
	c := filled(9, 0)
	calls := 0
	x := latch.Guard(c, 0, 3, func() *task.Task {
		calls++
		if got := c.All()[0]; got != 4 {
			t.Errorf("called while the latch contains %d", got)
		}
		return task.Seq(task.Add(c, 1, 5), task.Add(c, 1, 6))
	})
	wantCells(t, c, 0, 9, 0)
	for n := range 5 {
		wantStep(t, x)
		wantCells(t, c, n+1, 9, 0)
	}
	if calls != 0 {
		t.Fatal("called ahead of the Take's end")
	}
	c.Store(0, 0)
	wantStep(t, x)
	wantCells(t, c, 7, 4, 0)
	if calls != 1 {
		t.Fatalf("called %d times in the step that ends the Take", calls)
	}
	wantStep(t, x)
	wantCells(t, c, 8, 4, 5)
	wantStep(t, x)
	wantCells(t, c, 9, 4, 11)
	wantSteps(t, x, 1, 11)
	wantCells(t, c, 10, 0, 11)
	if calls != 1 {
		t.Fatalf("called %d times", calls)
	}
}

func TestGuardHasTheValueOfItsBody(t *testing.T) {
	for _, thread := range someThreads {
		for _, v := range someValues {
			c := filled(0)
			wantSteps(t, latch.Guard(c, 0, thread, func() *task.Task { return task.One(func() int { return v }) }), 3, v)
			wantCells(t, c, 2, 0)
			wantSteps(t, latch.Guard(c, 0, thread, func() *task.Task { return task.Ready(v) }), 2, v)
			wantCells(t, c, 4, 0)
		}
	}
}

// Whatever a body is that returns nothing, the latch is taken and dropped.
func TestGuardOfNothing(t *testing.T) {
	bodies := map[string]func() *task.Task{
		"no function":        nil,
		"no task":            func() *task.Task { return nil },
		"a task of nothing":  func() *task.Task { return new(task.Task) },
		"a list of no tasks": func() *task.Task { return task.Seq() },
		"a panic":            func() *task.Task { panic("body") },
		"a fault":            func() *task.Task { return (*[1]*task.Task)(nil)[0] },
	}
	for name, body := range bodies {
		t.Run(name, func(t *testing.T) {
			b := &ledger{cells: []uint64{0, 7}}
			wantSteps(t, latch.Guard(cells.Over(b), 0, 3, body), 2, 0)
			b.want(t, "swap 0 0 4", "swap 0 4 0")
		})
	}
}

// A task of the body whose functions panic counts as one with the value 0.
func TestGuardOfATaskThatPanics(t *testing.T) {
	c := filled(0)
	wantSteps(t, latch.Guard(c, 0, 3, func() *task.Task { return task.One(func() int { panic("do") }) }), 3, 0)
	wantSteps(t, latch.Guard(c, 0, 3, func() *task.Task {
		return task.Then(task.Add(c, 0, 0), func(int) *task.Task { panic("next") })
	}), 3, 0)
	wantCells(t, c, 5, 0)
}

func TestGuardOfATaskThatHasBegun(t *testing.T) {
	c := filled(0, 0)
	begun := task.Seq(task.Add(c, 1, 1), task.Add(c, 1, 2), task.Add(c, 1, 4))
	begun.Step(api.PickStep)
	wantSteps(t, latch.Guard(c, 0, 3, func() *task.Task { return begun }), 4, 7)
	wantCells(t, c, 5, 0, 7)
}

// A thread that is parked under the latch holds it.
func TestGuardOfATaskThatIsParked(t *testing.T) {
	c, p := filled(0), permit.New(4)
	x := latch.Guard(c, 0, 3, func() *task.Task { return task.Park(p, 3, true) })
	wantStep(t, x)
	if !x.Parked() || x.Done() || x.Step(api.PickStep) {
		t.Fatal("not parked")
	}
	other := latch.Take(c, 0, 1)
	wantStep(t, other)
	wantOpen(t, other)
	if !x.Step(api.PickTime) {
		t.Fatal("no step by PickTime")
	}
	wantCells(t, c, 2, 4)
	wantSteps(t, x, 1, 1)
	wantSteps(t, other, 1, 1)
	wantCells(t, c, 4, 2)
}

// If the latch is not the thread's own any more, the Drop changes nothing, and the value is the body's all the same.
func TestGuardOfALatchThatIsLost(t *testing.T) {
	c := filled(0, 6)
	x := latch.Guard(c, 0, 3, func() *task.Task { return task.Seq(task.Store(c, 0, 8), task.Load(c, 1)) })
	wantSteps(t, x, 4, 6)
	wantCells(t, c, 4, 8, 6)
}

func TestGuardsInEachOther(t *testing.T) {
	c := filled(0, 0, 5)
	x := latch.Guard(c, 0, 3, func() *task.Task {
		return latch.Guard(c, 1, 3, func() *task.Task { return task.Add(c, 2, 2) })
	})
	for n, want := range [][]uint64{{4, 0, 5}, {4, 4, 5}, {4, 4, 7}, {4, 0, 7}, {0, 0, 7}} {
		wantStep(t, x)
		wantCells(t, c, n+1, want...)
	}
	wantDone(t, x, 7)
	wantEndless(t, latch.Guard(c, 0, 3, func() *task.Task { return latch.Bump(c, 0, 3, 2) }))
	if got := c.All(); !slices.Equal(got, []uint64{4, 0, 7}) {
		t.Fatalf("cells %v", got)
	}
}

func TestGuardOfCellsThatAreNotThere(t *testing.T) {
	body := func() *task.Task { t.Error("called without the latch"); return nil }
	for _, at := range absent {
		c := filled(0, 0, 0)
		wantEndless(t, latch.Guard(c, at, 2, body))
		wantEndless(t, latch.Bump(c, at, 2, 1))
		wantCells(t, c, 0, 0, 0, 0)
	}
	wantEndless(t, latch.Guard(nil, 0, 2, body))
	wantEndless(t, latch.Bump(nil, 0, 2, 1))
}

// Guards that are repeated take the latch again each time.
func TestGuardInALoop(t *testing.T) {
	c := filled(0, 0)
	x := task.Loop(func() *task.Task {
		return latch.Guard(c, 0, 3, func() *task.Task {
			return task.Then(task.Add(c, 1, 1), func(v int) *task.Task {
				if v < 4 {
					return task.Ready(task.Again)
				}
				return task.Ready(v)
			})
		})
	})
	for n := range 12 {
		wantStep(t, x)
		want := []uint64{4, uint64(n+2) / 3}
		if n%3 == 2 {
			want[0] = 0
		}
		wantCells(t, c, n+1, want...)
	}
	wantDone(t, x, 4)
}

// P9.2: Bump, Loose

// numbers are what a cell contains that is bumped, and the value of the task.
var numbers = []struct {
	before, after uint64
	value         int
}{
	{0, 1, 0}, {1, 2, 1}, {41, 42, 41}, {1<<32 - 1, 1 << 32, 1<<32 - 1},
	{1<<63 - 1, 1 << 63, math.MaxInt}, {1 << 63, 1<<63 + 1, math.MinInt},
	{top - 1, top, -2}, {top, 0, -1},
	{1<<64 - 1<<31, 1<<64 - 1<<31 + 1, task.Again},
}

func TestBump(t *testing.T) {
	for _, thread := range someThreads {
		for _, n := range numbers {
			c := filled(n.before, 9, 0)
			x := latch.Bump(c, 2, thread, 0)
			wantCells(t, c, 0, n.before, 9, 0)
			wantStep(t, x)
			wantCells(t, c, 1, n.before, 9, mark(thread))
			wantStep(t, x)
			wantCells(t, c, 2, n.before, 9, mark(thread))
			wantStep(t, x)
			wantCells(t, c, 3, n.after, 9, mark(thread))
			wantSteps(t, x, 1, n.value)
			wantCells(t, c, 4, n.after, 9, 0)
		}
	}
}

func TestBumpIsALoadAndAStoreUnderTheLatch(t *testing.T) {
	b := &ledger{cells: []uint64{7, 11}}
	x := latch.Bump(cells.Over(b), 0, 2, 1)
	wantStep(t, x)
	b.cells[0] = 0
	wantStep(t, x)
	b.want(t, "swap 0 0 3", "swap 0 0 3")
	b.cells[1] = 20
	wantStep(t, x)
	wantStep(t, x)
	wantSteps(t, x, 1, 20)
	b.want(t, "swap 0 0 3", "swap 0 0 3", "load 1", "store 1 21", "swap 0 3 0")
}

func TestBumpWaitsForTheLatch(t *testing.T) {
	c := filled(0, 0)
	one, other := latch.Bump(c, 0, 0, 1), latch.Bump(c, 0, 1, 1)
	for range 3 {
		wantStep(t, one)
		wantStep(t, other)
	}
	wantCells(t, c, 6, 1, 1)
	wantSteps(t, one, 1, 0)
	wantSteps(t, other, 4, 1)
	wantCells(t, c, 11, 0, 2)
}

// A cell that is not there is loaded as 0, and not stored.
func TestBumpOfCellsThatAreNotThere(t *testing.T) {
	for _, i := range absent {
		c := filled(0, 8, 8)
		wantSteps(t, latch.Bump(c, 0, 3, i), 4, 0)
		wantCells(t, c, 2, 0, 8, 8)
		wantSteps(t, latch.Loose(c, i), 2, 0)
		wantCells(t, c, 2, 0, 8, 8)
		wantSteps(t, latch.Loose(nil, i), 2, 0)
	}
}

// The latch itself is a cell, too: what is loaded is the thread's mark, and what is stored is not.
func TestBumpOfTheLatch(t *testing.T) {
	c := filled(0)
	wantSteps(t, latch.Bump(c, 0, 3, 0), 4, 4)
	wantCells(t, c, 4, 5)
}

func TestLoose(t *testing.T) {
	for _, n := range numbers {
		c := filled(9, n.before, 9)
		x := latch.Loose(c, 1)
		wantCells(t, c, 0, 9, n.before, 9)
		wantStep(t, x)
		wantCells(t, c, 1, 9, n.before, 9)
		wantSteps(t, x, 1, n.value)
		wantCells(t, c, 2, 9, n.after, 9)
	}
}

func TestLooseIsALoadAndAStore(t *testing.T) {
	b := &ledger{cells: []uint64{7, 11}}
	x := latch.Loose(cells.Over(b), 1)
	b.want(t)
	b.cells[1] = 20
	wantStep(t, x)
	b.cells[1] = 30
	wantSteps(t, x, 1, 20)
	b.want(t, "load 1", "store 1 21")
}

// What another thread did between the Load and the Store is lost: together, two add 1.
func TestLooseLosesWhatOthersAdd(t *testing.T) {
	c := filled(0)
	one, other := latch.Loose(c, 0), latch.Loose(c, 0)
	wantStep(t, one)
	wantSteps(t, other, 2, 0)
	wantSteps(t, one, 1, 0)
	wantCells(t, c, 4, 1)
}

// The second example of the chapter.
func TestBumpStepByStep(t *testing.T) {
	c := filled(0, 0)
	x := latch.Bump(c, 0, 2, 1)
	for n, want := range [][]uint64{{3, 0}, {3, 0}, {3, 1}, {0, 1}} {
		wantStep(t, x)
		wantCells(t, c, n+1, want...)
	}
	wantDone(t, x, 0)
}
