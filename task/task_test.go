package task_test

import (
	"math"
	"runtime"
	"runtime/debug"
	"slices"
	"testing"
	"time"

	"doorkeeper/api"
	"doorkeeper/atom"
	"doorkeeper/cells"
	"doorkeeper/permit"
	"doorkeeper/task"
)

const (
	// top is the greatest value of a cell.
	top = math.MaxUint64
	// long is more than anything takes that does not wait for ever.
	long = time.Minute
	// short is enough for a goroutine that does not wait to end, most times.
	short = 20 * time.Millisecond
	// nested is how deep tasks may be in each other, as the document has it.
	nested = 1 << 16
)

// someValues are values of tasks, the least and the greatest among them.
var someValues = []int{0, 1, -1, 2, 7, 1 << 31, task.Again, task.Again + 1, task.Again - 1, math.MaxInt, math.MinInt}

// noKinds are no kinds of steps; some look right when the bits above are cut off.
var noKinds = []int{-1, -2, 3, 4, 255, 256, 258, 1 << 16, 1 << 32, 1<<32 + 1, 1<<32 + 2, math.MinInt32, math.MinInt, math.MaxInt}

// kinds are all kinds of steps.
var kinds = []int{api.PickStep, api.PickTime, api.PickSpurious}

// wantStep tests whether a step is taken, and that Can told so.
func wantStep(t *testing.T, x *task.Task, kind int, want bool) {
	t.Helper()
	can := x.Can(kind)
	if got := x.Step(kind); got != want || can != want {
		t.Fatalf("Step(%d) = %v, after Can = %v, want %v", kind, got, can, want)
	}
}

// wantNone tests that no step of these kinds is taken, and that this changes nothing of the task.
func wantNone(t *testing.T, x *task.Task, kinds ...int) {
	t.Helper()
	done, parked, value := x.Done(), x.Parked(), x.Value()
	for _, kind := range kinds {
		wantStep(t, x, kind, false)
	}
	if x.Done() != done || x.Parked() != parked || x.Value() != value {
		t.Fatal("no step, and yet another state")
	}
}

// wantDone tests that the task is done, with this value, and stays so.
func wantDone(t *testing.T, x *task.Task, value int) {
	t.Helper()
	for range 2 {
		if !x.Done() || x.Parked() || x.Value() != value {
			t.Fatalf("Done = %v, Parked = %v, Value = %d, want the value %d", x.Done(), x.Parked(), x.Value(), value)
		}
		wantNone(t, x, kinds...)
		wantNone(t, x, noKinds...)
	}
}

// wantOperation tests that the task is about to do an operation, which only a step of the first kind does.
func wantOperation(t *testing.T, x *task.Task) {
	t.Helper()
	if x.Done() || x.Parked() || x.Value() != 0 {
		t.Fatalf("Done = %v, Parked = %v, Value = %d, want an operation", x.Done(), x.Parked(), x.Value())
	}
	if !x.Can(api.PickStep) {
		t.Fatal("no step can be taken")
	}
	wantNone(t, x, api.PickTime, api.PickSpurious)
	wantNone(t, x, noKinds...)
}

// wantParked tests that the task is parked, and which kinds of steps can be taken.
func wantParked(t *testing.T, x *task.Task, step, timed bool) {
	t.Helper()
	if x.Done() || !x.Parked() || x.Value() != 0 {
		t.Fatalf("Done = %v, Parked = %v, Value = %d, want it parked", x.Done(), x.Parked(), x.Value())
	}
	for range 2 {
		got := [3]bool{x.Can(api.PickStep), x.Can(api.PickTime), x.Can(api.PickSpurious)}
		if got != [3]bool{step, timed, true} {
			t.Fatalf("Can = %v, want %v, %v, true", got, step, timed)
		}
	}
	wantNone(t, x, noKinds...)
}

// wantSteps tests that the task is done after so many steps, each with one operation on the cells, and has this value then.
func wantSteps(t *testing.T, c *cells.Cells, x *task.Task, steps, value int) {
	t.Helper()
	for n := range steps {
		wantOperation(t, x)
		before := c.Steps()
		wantStep(t, x, api.PickStep, true)
		if did := c.Steps() - before; did != 1 {
			t.Fatalf("the step %d does %d operations", n, did)
		}
	}
	before := c.Steps()
	wantDone(t, x, value)
	if c.Steps() != before {
		t.Fatal("an operation of a task that is done")
	}
}

// wantCells tests what the cells have.
func wantCells(t *testing.T, c *cells.Cells, want ...uint64) {
	t.Helper()
	if got := c.All(); !slices.Equal(got, want) {
		t.Fatalf("cells %v, want %v", got, want)
	}
}

// filled are cells with these values.
func filled(values ...uint64) *cells.Cells {
	c := cells.New(len(values))
	for i, v := range values {
		c.Store(i, v)
	}
	return c
}

// tape records values, in order.
type tape []int

func (l *tape) note(v int) { *l = append(*l, v) }

func (l tape) want(t *testing.T, want ...int) {
	t.Helper()
	if !slices.Equal(l, want) {
		t.Fatalf("recorded %v, want %v", l, want)
	}
}

// noting is a continuation that records its argument, and goes on as x.
func (l *tape) noting(x *task.Task) func(int) *task.Task {
	return func(v int) *task.Task {
		l.note(v)
		return x
	}
}

// ended is a task that has taken so many steps before it was done.
func ended(t *testing.T, steps, value int) *task.Task {
	t.Helper()
	x := task.Ready(value)
	for range steps {
		x = task.Then(task.One(func() int { return 9 }), func(int) *task.Task { return task.Ready(value) })
		x.Step(api.PickStep)
	}
	wantDone(t, x, value)
	return x
}

// again is a body of one step, that loads the cell 0, and then is of the value that the list has next.
func again(c *cells.Cells, values ...int) func() *task.Task {
	return func() *task.Task {
		return task.Then(task.Load(c, 0), func(int) *task.Task {
			v := values[0]
			values = values[1:]
			return task.Ready(v)
		})
	}
}

// P6.1: Ready

func TestReady(t *testing.T) {
	for _, v := range someValues {
		wantDone(t, task.Ready(v), v)
	}
}

// P6.1: One

func TestOne(t *testing.T) {
	for _, v := range someValues {
		calls := 0
		x := task.One(func() int { calls++; return v })
		wantOperation(t, x)
		if calls != 0 {
			t.Fatal("called before the step")
		}
		wantStep(t, x, api.PickStep, true)
		wantDone(t, x, v)
		if calls != 1 {
			t.Fatalf("called %d times", calls)
		}
	}
}

func TestOneOfNoFunction(t *testing.T) {
	x := task.One(nil)
	wantOperation(t, x)
	wantStep(t, x, api.PickStep, true)
	wantDone(t, x, 0)
}

// P6.1: Then

func TestThen(t *testing.T) {
	for _, v := range someValues {
		var l tape
		c := filled(5)
		x := task.Then(task.One(func() int { return v }), l.noting(task.Load(c, 0)))
		wantOperation(t, x)
		l.want(t)
		// The next one is known in the same step, but its operation is not done.
		wantStep(t, x, api.PickStep, true)
		l.want(t, v)
		wantSteps(t, c, x, 1, 5)
		l.want(t, v)
	}
}

func TestThenOfATaskThatIsDone(t *testing.T) {
	for _, v := range someValues {
		for _, first := range []*task.Task{task.Ready(v), ended(t, 1, v), ended(t, 2, v)} {
			var l tape
			c := filled(5)
			x := task.Then(first, l.noting(task.Load(c, 0)))
			l.want(t, v)
			wantSteps(t, c, x, 1, 5)
			l = nil
			wantDone(t, task.Then(first, l.noting(task.Ready(8))), 8)
			l.want(t, v)
		}
	}
}

func TestThenOfNoTask(t *testing.T) {
	var l tape
	wantDone(t, task.Then(nil, l.noting(task.Ready(3))), 3)
	l.want(t, 0)
}

func TestThenIsTheTaskThatNextReturns(t *testing.T) {
	c := filled(5)
	p := permit.New(1)
	one := func() *task.Task { return task.Load(c, 0) }
	wantDone(t, task.Then(nil, func(int) *task.Task { return task.Ready(4) }), 4)
	x := task.Then(one(), func(int) *task.Task { return task.Ready(4) })
	wantSteps(t, c, x, 1, 4)
	x = task.Then(one(), func(int) *task.Task { return ended(t, 3, 4) })
	wantSteps(t, c, x, 1, 4)
	x = task.Then(one(), func(v int) *task.Task { return task.Seq(one(), one(), task.Ready(v+1)) })
	wantSteps(t, c, x, 3, 6)
	x = task.Then(one(), func(int) *task.Task { return task.Park(p, 0, true) })
	wantStep(t, x, api.PickStep, true)
	wantParked(t, x, false, true)
}

// What next returns may have been begun.
func TestThenOfATaskThatHasBegun(t *testing.T) {
	c := filled(5, 0)
	begun := task.Seq(task.Load(c, 0), task.Add(c, 1, 1), task.Add(c, 1, 1))
	begun.Step(api.PickStep)
	x := task.Then(task.Load(c, 0), func(int) *task.Task { return begun })
	wantSteps(t, c, x, 3, 2)
	begun = task.Seq(task.Load(c, 0), task.Add(c, 1, 1))
	begun.Step(api.PickStep)
	x = task.Then(begun, func(v int) *task.Task { return task.Store(c, 0, uint64(10*v)) })
	wantSteps(t, c, x, 2, 1)
	wantCells(t, c, 30, 3)
}

func TestThenOfNoFunction(t *testing.T) {
	c := filled(5)
	wantDone(t, task.Then(task.Ready(7), nil), 0)
	wantDone(t, task.Then(nil, nil), 0)
	wantSteps(t, c, task.Then(task.Load(c, 0), nil), 1, 0)
}

func TestThenOfAFunctionWithoutATask(t *testing.T) {
	var l tape
	c := filled(5)
	wantDone(t, task.Then(task.Ready(7), l.noting(nil)), 0)
	wantSteps(t, c, task.Then(task.Load(c, 0), l.noting(nil)), 1, 0)
	l.want(t, 7, 5)
}

func TestContinuationsComeInOrderWithTheValues(t *testing.T) {
	var l tape
	c := filled(1)
	more := func(d uint64) func(int) *task.Task {
		return func(v int) *task.Task {
			l.note(v)
			return task.Add(c, 0, d)
		}
	}
	x := task.Then(task.Then(task.Then(task.Load(c, 0), more(1)), more(2)), more(3))
	wantSteps(t, c, x, 4, 7)
	l.want(t, 1, 2, 4)
	l = nil
	x = task.Then(task.Load(c, 0), func(v int) *task.Task {
		return task.Then(task.Then(more(1)(v), more(2)), more(3))
	})
	wantSteps(t, c, x, 4, 13)
	l.want(t, 7, 8, 10)
}

// Several continuations in one step: those whose tasks are done at once.
func TestContinuationsWithoutAnOperation(t *testing.T) {
	var l tape
	c := filled(5)
	count := func(v int) *task.Task {
		l.note(v)
		return task.Ready(v + 1)
	}
	x := task.Then(task.Then(task.Then(task.Load(c, 0), count), count), count)
	l.want(t)
	wantSteps(t, c, x, 1, 8)
	l.want(t, 5, 6, 7)
	l = nil
	wantDone(t, task.Then(task.Then(task.Then(task.Ready(1), count), count), count), 4)
	l.want(t, 1, 2, 3)
}

// Continuations of other tasks, and of those that were made before, do not come in between.
func TestEachTaskHasItsOwnContinuations(t *testing.T) {
	var l [2]tape
	c := filled(5)
	a := task.Then(task.Load(c, 0), l[0].noting(task.Load(c, 0)))
	b := task.Then(task.Load(c, 0), l[1].noting(task.Ready(2)))
	wantStep(t, a, api.PickStep, true)
	l[0].want(t, 5)
	l[1].want(t)
	wantSteps(t, c, b, 1, 2)
	wantSteps(t, c, a, 1, 5)
	l[0].want(t, 5)
	l[1].want(t, 5)
}

// P6.1: Loop

func TestLoop(t *testing.T) {
	for again := range 5 {
		calls := 0
		c := cells.New(1)
		x := task.Loop(func() *task.Task {
			calls++
			return task.Then(task.Add(c, 0, 1), func(v int) *task.Task {
				if v <= again {
					return task.Ready(task.Again)
				}
				return task.Ready(10 * v)
			})
		})
		for n := range again + 1 {
			if calls != n+1 {
				t.Fatalf("after %d steps, body was called %d times", n, calls)
			}
			wantOperation(t, x)
			wantStep(t, x, api.PickStep, true)
		}
		wantDone(t, x, 10*(again+1))
		if calls != again+1 {
			t.Fatalf("body was called %d times, want %d", calls, again+1)
		}
		wantCells(t, c, uint64(again+1))
	}
}

func TestLoopEndsWithAnyOtherValue(t *testing.T) {
	for _, v := range someValues {
		if v == task.Again {
			continue
		}
		c := filled(5)
		wantSteps(t, c, task.Loop(again(c, v)), 1, v)
		wantSteps(t, c, task.Loop(again(c, task.Again, task.Again, v)), 3, v)
	}
}

func TestLoopOfABodyThatIsDone(t *testing.T) {
	for _, v := range someValues {
		for _, first := range []*task.Task{task.Ready(v), ended(t, 1, v), ended(t, 2, v)} {
			calls := 0
			x := task.Loop(func() *task.Task { calls++; return first })
			wantDone(t, x, v)
			if calls != 1 {
				t.Fatalf("body was called %d times", calls)
			}
		}
	}
}

// A body that took steps, and then needs none.
func TestLoopOfABodyThatIsDoneLater(t *testing.T) {
	for _, v := range someValues {
		calls := 0
		c := filled(5)
		x := task.Loop(func() *task.Task {
			calls++
			if calls == 3 {
				return task.Ready(v)
			}
			return task.Then(task.Load(c, 0), func(int) *task.Task { return task.Ready(task.Again) })
		})
		wantSteps(t, c, x, 2, v)
		if calls != 3 {
			t.Fatalf("body was called %d times", calls)
		}
	}
}

func TestLoopOfNone(t *testing.T) {
	wantDone(t, task.Loop(nil), 0)
	wantDone(t, task.Loop(func() *task.Task { return nil }), 0)
	c, calls := filled(5), 0
	x := task.Loop(func() *task.Task {
		calls++
		if calls == 2 {
			return nil
		}
		return task.Seq(task.Load(c, 0), task.Ready(task.Again))
	})
	wantSteps(t, c, x, 1, 0)
}

// A body of several steps, which may be parked.
func TestLoopOfALongBody(t *testing.T) {
	c, p, calls := filled(0), permit.New(1), 0
	x := task.Loop(func() *task.Task {
		calls++
		return task.Then(task.Seq(task.Add(c, 0, 1), task.Park(p, 0, true), task.Load(c, 0)), func(v int) *task.Task {
			if v < 3 {
				return task.Ready(task.Again)
			}
			return nil
		})
	})
	for n := range 3 {
		if calls != n+1 {
			t.Fatalf("body was called %d times, want %d", calls, n+1)
		}
		wantStep(t, x, api.PickStep, true)
		wantParked(t, x, false, true)
		wantStep(t, x, api.PickTime, true)
		wantStep(t, x, api.PickStep, true)
	}
	wantDone(t, x, 0)
	wantCells(t, c, 3)
}

func TestLoopInALoop(t *testing.T) {
	c, outer := filled(5), 0
	x := task.Loop(func() *task.Task {
		outer++
		inner := task.Loop(again(c, task.Again, task.Again, outer))
		return task.Then(inner, func(v int) *task.Task {
			if v < 3 {
				return task.Ready(task.Again)
			}
			return task.Ready(10 * v)
		})
	})
	wantSteps(t, c, x, 9, 30)
	if outer != 3 {
		t.Errorf("the outer body was called %d times", outer)
	}
}

// The inner loop ends with Again, because its body is done at once; the outer one goes on then, if that took a step.
func TestLoopOfALoopThatEndsWithAgain(t *testing.T) {
	c, calls := filled(5), 0
	inner := func() *task.Task {
		calls++
		if calls%2 == 0 {
			return task.Ready(task.Again)
		}
		return task.Then(task.Load(c, 0), func(v int) *task.Task { return task.Ready(task.Again) })
	}
	x := task.Loop(func() *task.Task {
		if calls == 6 {
			return task.Ready(1)
		}
		return task.Loop(inner)
	})
	wantSteps(t, c, x, 3, 1)
	none := func() *task.Task { return task.Ready(task.Again) }
	wantDone(t, task.Loop(func() *task.Task { return task.Loop(none) }), task.Again)
}

func TestWhatFollowsALoop(t *testing.T) {
	c := filled(5)
	x := task.Then(task.Loop(again(c, task.Again, 4)), func(v int) *task.Task { return task.Add(c, 0, uint64(v)) })
	wantSteps(t, c, x, 3, 9)
	// Again is an ordinary value outside of loops.
	x = task.Seq(task.Ready(task.Again), task.Load(c, 0), task.Ready(task.Again))
	wantSteps(t, c, x, 1, task.Again)
}

// P6.2: Park

func TestPark(t *testing.T) {
	for _, timed := range []bool{false, true} {
		for _, given := range []bool{false, true} {
			for value, kind := range kinds {
				p := permit.New(3)
				if given {
					p.Give(1)
				}
				x := task.Park(p, 1, timed)
				wantParked(t, x, given, timed)
				ends := kind == api.PickStep && given || kind == api.PickTime && timed || kind == api.PickSpurious
				wantStep(t, x, kind, ends)
				if p.Has(1) != (given && kind != api.PickStep) {
					t.Errorf("timed %v, given %v, kind %d: the permit: %v", timed, given, kind, p.Has(1))
				}
				if ends {
					wantDone(t, x, value)
				} else {
					wantParked(t, x, given, timed)
				}
			}
		}
	}
}

func TestParkOfTheOtherThreads(t *testing.T) {
	p := permit.New(3)
	p.Give(0)
	p.Give(2)
	x := task.Park(p, 1, false)
	wantParked(t, x, false, false)
	wantNone(t, x, api.PickStep, api.PickTime)
	if !p.Has(0) || !p.Has(2) {
		t.Error("another thread's permit is gone")
	}
	p.Give(1)
	wantParked(t, x, true, false)
	wantStep(t, x, api.PickStep, true)
	wantDone(t, x, 0)
	if !p.Has(0) || p.Has(1) || !p.Has(2) {
		t.Error("another permit than its own is consumed")
	}
}

// One permit ends one parking; a permit of the time before counts.
func TestParkTwice(t *testing.T) {
	p := permit.New(1)
	x := task.Seq(task.Park(p, 0, false), task.Park(p, 0, false))
	p.Give(0)
	wantStep(t, x, api.PickStep, true)
	wantParked(t, x, false, false)
	wantStep(t, x, api.PickStep, false)
	p.Give(0)
	wantStep(t, x, api.PickStep, true)
	wantDone(t, x, 0)
}

func TestAPermitThatIsTakenAway(t *testing.T) {
	p := permit.New(1)
	x := task.Park(p, 0, false)
	p.Give(0)
	wantParked(t, x, true, false)
	p.Take(0)
	wantParked(t, x, false, false)
	wantStep(t, x, api.PickStep, false)
}

func TestParkOfThreadsThatAreNotThere(t *testing.T) {
	for _, p := range []*permit.Permits{permit.New(3), nil} {
		for _, thread := range []int{-1, 3, 4, 1 << 15, 1 << 32, math.MinInt, math.MaxInt} {
			for i := range 3 {
				p.Give(i)
			}
			for _, timed := range []bool{false, true} {
				x := task.Park(p, thread, timed)
				wantParked(t, x, false, timed)
				wantStep(t, x, api.PickStep, false)
				wantStep(t, x, api.PickTime, timed)
				wantStep(t, x, api.PickSpurious, !timed)
				wantDone(t, x, map[bool]int{true: 1, false: 2}[timed])
			}
		}
	}
}

// A step that ends a parking does no operation, but goes on as far as this needs none.
func TestWhatFollowsAParking(t *testing.T) {
	for value, kind := range kinds {
		var l tape
		c, p := filled(5), permit.New(1)
		p.Give(0)
		before := c.Steps()
		x := task.Then(task.Then(task.Park(p, 0, true), func(v int) *task.Task {
			l.note(v)
			return task.Ready(v + 10)
		}), l.noting(task.Load(c, 0)))
		wantParked(t, x, true, true)
		wantStep(t, x, kind, true)
		l.want(t, value, value+10)
		if c.Steps() != before {
			t.Error("the end of a parking does an operation")
		}
		wantSteps(t, c, x, 1, 5)
	}
}

// A step that does an operation does not end the parking behind it.
func TestParkBehindAnOperation(t *testing.T) {
	c, p := filled(5), permit.New(1)
	p.Give(0)
	x := task.Seq(task.Load(c, 0), task.Park(p, 0, false))
	wantOperation(t, x)
	wantStep(t, x, api.PickStep, true)
	wantParked(t, x, true, false)
	if !p.Has(0) {
		t.Error("the permit is consumed")
	}
}

// P6.3: Load, Store, Swap, Add

func TestOperations(t *testing.T) {
	for _, row := range []struct {
		name  string
		x     func(c *cells.Cells) *task.Task
		value int
		cells []uint64
	}{
		{"Load 0", func(c *cells.Cells) *task.Task { return task.Load(c, 0) }, 5, []uint64{5, 0, top}},
		{"Load 1", func(c *cells.Cells) *task.Task { return task.Load(c, 1) }, 0, []uint64{5, 0, top}},
		{"Load 2", func(c *cells.Cells) *task.Task { return task.Load(c, 2) }, -1, []uint64{5, 0, top}},
		{"Store", func(c *cells.Cells) *task.Task { return task.Store(c, 1, 9) }, 1, []uint64{5, 9, top}},
		{"Store top", func(c *cells.Cells) *task.Task { return task.Store(c, 0, top) }, 1, []uint64{top, 0, top}},
		{"Swap", func(c *cells.Cells) *task.Task { return task.Swap(c, 0, 5, 9) }, 1, []uint64{9, 0, top}},
		{"Swap of the same", func(c *cells.Cells) *task.Task { return task.Swap(c, 2, top, top) }, 1, []uint64{5, 0, top}},
		{"Swap of another", func(c *cells.Cells) *task.Task { return task.Swap(c, 0, 4, 9) }, 0, []uint64{5, 0, top}},
		{"Add", func(c *cells.Cells) *task.Task { return task.Add(c, 0, 2) }, 7, []uint64{7, 0, top}},
		{"Add less", func(c *cells.Cells) *task.Task { return task.Add(c, 1, top) }, -1, []uint64{5, top, top}},
		{"Add round", func(c *cells.Cells) *task.Task { return task.Add(c, 2, 1) }, 0, []uint64{5, 0, 0}},
		{"Add much", func(c *cells.Cells) *task.Task { return task.Add(c, 1, 1<<63) }, math.MinInt, []uint64{5, 1 << 63, top}},
	} {
		c := filled(5, 0, top)
		before := c.Steps()
		x := row.x(c)
		if c.Steps() != before {
			t.Errorf("%s: an operation before its step", row.name)
		}
		wantSteps(t, c, x, 1, row.value)
		wantCells(t, c, row.cells...)
	}
}

// The operation has the values that the cell has when its step is taken.
func TestOperationsComeWithTheirSteps(t *testing.T) {
	c := filled(5)
	load, add, swap := task.Load(c, 0), task.Add(c, 0, 1), task.Swap(c, 0, 7, 70)
	c.Store(0, 6)
	wantSteps(t, c, load, 1, 6)
	wantSteps(t, c, add, 1, 7)
	wantSteps(t, c, swap, 1, 1)
	wantCells(t, c, 70)
}

func TestOperationsOnCellsThatAreNotThere(t *testing.T) {
	three := filled(1, 2, 3)
	before := three.Steps()
	for _, c := range []*cells.Cells{three, nil, cells.New(0)} {
		for _, i := range []int{-1, -3, 3, 4, 1 << 32, math.MinInt, math.MaxInt} {
			for _, x := range []*task.Task{task.Load(c, i), task.Store(c, i, 1), task.Swap(c, i, 0, 1), task.Swap(c, i, 0, 0), task.Add(c, i, 1)} {
				wantOperation(t, x)
				wantStep(t, x, api.PickStep, true)
				wantDone(t, x, 0)
			}
		}
	}
	wantCells(t, three, 1, 2, 3)
	if three.Steps() != before {
		t.Error("operations are counted")
	}
}

// P6.3: Spin

func TestSpin(t *testing.T) {
	c := filled(5, 0)
	x := task.Spin(c, 1, 3, 4)
	for _, v := range []uint64{0, 2, 4, top} {
		c.Store(1, v)
		for range 2 {
			wantOperation(t, x)
			before := c.Steps()
			wantStep(t, x, api.PickStep, true)
			if c.Steps() != before+1 {
				t.Fatal("not one operation")
			}
			wantCells(t, c, 5, v)
		}
	}
	c.Store(1, 3)
	wantSteps(t, c, x, 1, 1)
	wantCells(t, c, 5, 4)
}

func TestSpinThatSucceedsAtOnce(t *testing.T) {
	c := filled(5)
	wantSteps(t, c, task.Spin(c, 0, 5, 5), 1, 1)
	wantSteps(t, c, task.Spin(c, 0, 5, 0), 1, 1)
	wantSteps(t, c, task.Spin(c, 0, 0, top), 1, 1)
	wantCells(t, c, top)
	x := task.Then(task.Spin(c, 0, top, 1), func(v int) *task.Task { return task.Add(c, 0, uint64(v)) })
	wantSteps(t, c, x, 2, 2)
}

func TestSpinOfCellsThatAreNotThere(t *testing.T) {
	for _, c := range []*cells.Cells{filled(0), nil, cells.New(0)} {
		for _, i := range []int{-1, 1, math.MaxInt} {
			x := task.Spin(c, i, 0, 0)
			for range 10 {
				wantOperation(t, x)
				wantStep(t, x, api.PickStep, true)
			}
			wantOperation(t, x)
		}
	}
}

// P6.3: Seq

func TestSeq(t *testing.T) {
	c := filled(5, 0)
	wantSteps(t, c, task.Seq(task.Add(c, 0, 2), task.Store(c, 1, 9)), 2, 1)
	wantCells(t, c, 7, 9)
	wantSteps(t, c, task.Seq(task.Load(c, 1), task.Swap(c, 0, 8, 9), task.Load(c, 0)), 3, 7)
	wantSteps(t, c, task.Seq(task.Load(c, 1)), 1, 9)
}

func TestSeqIsInOrder(t *testing.T) {
	for n := range 20 {
		var l tape
		var all []*task.Task
		var want []int
		for i := range n {
			all = append(all, task.One(func() int { l.note(i); return 100 + i }))
			want = append(want, i)
		}
		x := task.Seq(all...)
		for i := range n {
			l.want(t, want[:i]...)
			wantOperation(t, x)
			wantStep(t, x, api.PickStep, true)
		}
		l.want(t, want...)
		wantDone(t, x, max(0, 99+n)*min(1, n))
	}
}

func TestSeqOfNone(t *testing.T) {
	wantDone(t, task.Seq(), 0)
	wantDone(t, task.Seq(nil), 0)
	wantDone(t, task.Seq(nil, nil, nil), 0)
	wantDone(t, task.Seq([]*task.Task{}...), 0)
	for _, x := range []*task.Task{task.Seq(), task.Seq(nil), task.Seq(nil, nil), task.Then(nil, nil), task.Loop(nil), task.Then(task.Ready(1), nil)} {
		if x == nil {
			t.Error("the task is nil")
		}
	}
}

func TestSeqOfTasksThatAreDone(t *testing.T) {
	c := filled(5)
	for _, v := range someValues {
		done := []*task.Task{task.Ready(v), ended(t, 1, v), ended(t, 2, v)}
		for _, d := range done {
			wantDone(t, task.Seq(d), v)
			wantDone(t, task.Seq(task.Ready(3), nil, d), v)
			wantDone(t, task.Seq(d, nil), 0)
			wantDone(t, task.Seq(d, task.Ready(3)), 3)
			wantSteps(t, c, task.Seq(d, task.Load(c, 0)), 1, 5)
			wantSteps(t, c, task.Seq(d, d, nil, task.Load(c, 0), nil, d), 1, v)
			wantSteps(t, c, task.Seq(task.Load(c, 0), d, task.Load(c, 0), nil), 2, 0)
			wantSteps(t, c, task.Seq(task.Load(c, 0), nil, d, task.Load(c, 0)), 2, 5)
		}
	}
}

// The list is the caller's: what is stored in it afterwards does not count.
func TestSeqKeepsNoList(t *testing.T) {
	c := filled(5)
	l := []*task.Task{task.Load(c, 0), task.Add(c, 0, 1), task.Add(c, 0, 10)}
	x := task.Seq(l...)
	l[0], l[1], l[2] = nil, task.Ready(0), task.Store(c, 0, 0)
	wantSteps(t, c, x, 3, 16)
	l = []*task.Task{nil, task.Load(c, 0), nil, task.Ready(3)}
	before := slices.Clone(l)
	wantSteps(t, c, task.Seq(l...), 1, 3)
	if !slices.Equal(l, before) {
		t.Error("the list is changed")
	}
}

// P6.4

func TestNoTask(t *testing.T) {
	wantDone(t, nil, 0)
	if task.Run(nil) != 0 {
		t.Error("Run")
	}
}

// A value that no function made is as none.
func TestZeroTask(t *testing.T) {
	x := new(task.Task)
	wantDone(t, x, 0)
	wantDone(t, task.Seq(task.Ready(4), x), 0)
	if task.Run(x) != 0 {
		t.Error("Run")
	}
}

func TestStepsOfOtherKindsDoNothing(t *testing.T) {
	c, calls := filled(5), 0
	for _, x := range []*task.Task{
		task.Add(c, 0, 1),
		task.Store(c, 0, 1),
		task.Spin(c, 0, 5, 1),
		task.Seq(task.Add(c, 0, 1), task.Add(c, 0, 1)),
		task.One(func() int { calls++; return 0 }),
	} {
		wantOperation(t, x)
	}
	if calls != 0 {
		t.Error("the function is called")
	}
	wantCells(t, c, 5)
}

// The value is there when the task is done, and not before.
func TestValueOfATaskThatIsNotDone(t *testing.T) {
	c, p := filled(5), permit.New(1)
	x := task.Seq(task.Load(c, 0), task.Load(c, 0), task.Park(p, 0, false), task.Ready(7))
	for range 2 {
		if x.Value() != 0 || x.Done() || x.Parked() {
			t.Fatal("a value of what came before")
		}
		wantStep(t, x, api.PickStep, true)
	}
	if x.Value() != 0 || x.Done() || !x.Parked() {
		t.Fatal("a value of a task that is parked")
	}
	wantStep(t, x, api.PickSpurious, true)
	wantDone(t, x, 7)
}

// What a task calls sees it as it was before the step.
func TestStateInItsOwnStep(t *testing.T) {
	var x *task.Task
	look := func() {
		if x.Done() || x.Parked() || x.Value() != 0 {
			t.Error("its state is another one within the step")
		}
	}
	x = task.Then(task.One(func() int { look(); return 5 }), func(int) *task.Task { look(); return task.Ready(6) })
	wantStep(t, x, api.PickStep, true)
	wantDone(t, x, 6)
}

// What a function does before it panics is done; its result is as that of no function.
func TestFunctionsThatPanic(t *testing.T) {
	c := filled(5)
	panics := func() *task.Task { panic("no task") }
	x := task.One(func() int { panic("no value") })
	wantOperation(t, x)
	wantStep(t, x, api.PickStep, true)
	wantDone(t, x, 0)
	wantDone(t, task.Then(task.Ready(4), func(int) *task.Task { return panics() }), 0)
	wantSteps(t, c, task.Then(task.Load(c, 0), func(int) *task.Task { return panics() }), 1, 0)
	wantDone(t, task.Loop(panics), 0)
	calls := 0
	x = task.Loop(func() *task.Task {
		calls++
		if calls == 2 {
			return panics()
		}
		return task.Seq(task.Load(c, 0), task.Ready(task.Again))
	})
	wantSteps(t, c, x, 1, 0)
}

// P6.5

// wantRun tests that Run ends, with this value.
func wantRun(t *testing.T, x *task.Task, value int) {
	t.Helper()
	wantResult(t, started(x), value)
	wantDone(t, x, value)
}

// started runs a task in a goroutine, which sends what Run returned.
func started(x *task.Task) <-chan int {
	result := make(chan int, 1)
	go func() { result <- task.Run(x) }()
	return result
}

// wantResult tests that a Run ends, with this result.
func wantResult(t *testing.T, result <-chan int, want int) {
	t.Helper()
	select {
	case got := <-result:
		if got != want {
			t.Fatalf("Run = %d, want %d", got, want)
		}
	case <-time.After(long):
		t.Fatal("Run does not end")
	}
}

// wantWaiting tests that a Run has not ended, nor ends soon.
func wantWaiting(t *testing.T, result <-chan int) {
	t.Helper()
	select {
	case got := <-result:
		t.Fatalf("Run does not wait, and returns %d", got)
	case <-time.After(short):
	}
}

func TestRun(t *testing.T) {
	for _, v := range someValues {
		wantRun(t, task.Ready(v), v)
		wantRun(t, task.One(func() int { return v }), v)
	}
	c := filled(5, 3)
	wantRun(t, task.Seq(task.Add(c, 0, 2), task.Spin(c, 1, 3, 4), task.Load(c, 1)), 4)
	wantCells(t, c, 7, 4)
	wantRun(t, task.Loop(again(c, task.Again, task.Again, 8)), 8)
	if n := c.Steps(); n != 2+3+3 {
		t.Errorf("%d operations", n)
	}
}

func TestRunOfATaskThatHasBegun(t *testing.T) {
	c := filled(5)
	x := task.Seq(task.Add(c, 0, 1), task.Add(c, 0, 1), task.Add(c, 0, 1))
	x.Step(api.PickStep)
	wantRun(t, x, 8)
	wantRun(t, x, 8)
}

func TestRunOfTasksThatAreParked(t *testing.T) {
	for _, timed := range []bool{false, true} {
		p := permit.New(2)
		p.Give(0)
		p.Give(1)
		// A permit ends even a parking that is timed.
		wantRun(t, task.Park(p, 1, timed), 0)
		if p.Has(1) || !p.Has(0) {
			t.Error("the permit is not consumed, or another one is")
		}
	}
	p := permit.New(2)
	p.Give(0)
	wantRun(t, task.Park(p, 1, true), 1)
	wantRun(t, task.Seq(task.Park(p, 0, true), task.Park(p, 0, true)), 1)
}

func TestRunWaitsForAPermit(t *testing.T) {
	var l tape
	c, p := atom.New(1), permit.New(2)
	c.Store(0, 5)
	x := task.Then(task.Park(p, 1, false), l.noting(task.Seq(task.Add(c, 0, 1), task.Park(p, 1, false), task.Add(c, 0, 1))))
	result := started(x)
	wantWaiting(t, result)
	p.Give(0)
	wantWaiting(t, result)
	wantCells(t, c, 5)
	p.Give(1)
	wantWaiting(t, result)
	wantCells(t, c, 6)
	p.Give(1)
	wantResult(t, result, 7)
	wantDone(t, x, 7)
	l.want(t, 0)
	if !p.Has(0) || p.Has(1) {
		t.Error("the permits")
	}
}

// No permit can come for a thread that is not there: to wait for one would be for ever.
func TestRunOfThreadsThatAreNotThere(t *testing.T) {
	for _, p := range []*permit.Permits{permit.New(1), nil} {
		for _, thread := range []int{-1, 1, math.MaxInt} {
			c := filled(5)
			x := task.Seq(task.Add(c, 0, 1), task.Park(p, thread, false), task.Add(c, 0, 1))
			wantResult(t, started(x), 0)
			wantParked(t, x, false, false)
			wantCells(t, c, 6)
			wantRun(t, task.Park(p, thread, true), 1)
		}
	}
}

// Tasks that wait for each other, in goroutines.
func TestRunsTogether(t *testing.T) {
	const rounds = 2000
	p := permit.New(2)
	shared := 0
	turn := func(me int) *task.Task {
		round := 0
		return task.Loop(func() *task.Task {
			return task.Then(task.Park(p, me, false), func(v int) *task.Task {
				shared++
				round++
				p.Give(1 - me)
				if round < rounds {
					return task.Seq(task.One(nil), task.Ready(task.Again))
				}
				return task.Ready(100*me + v)
			})
		})
	}
	first, second := started(turn(0)), started(turn(1))
	p.Give(0)
	wantResult(t, second, 100)
	wantResult(t, first, 0)
	if shared != 2*rounds {
		t.Errorf("%d turns", shared)
	}
}

// P6.6

func TestExamples(t *testing.T) {
	c := filled(5, 0)
	x := task.Seq(task.Add(c, 0, 2), task.Store(c, 1, 9))
	wantStep(t, x, api.PickStep, true)
	wantCells(t, c, 7, 0)
	wantStep(t, x, api.PickStep, true)
	wantCells(t, c, 7, 9)
	wantDone(t, x, 1)
	c = filled(5, 0)
	x = task.Spin(c, 1, 3, 4)
	wantStep(t, x, api.PickStep, true)
	wantOperation(t, x)
	c.Store(1, 3)
	wantSteps(t, c, x, 1, 1)
	wantCells(t, c, 5, 4)
	wantDone(t, task.Seq(), 0)
	x = task.Park(permit.New(1), 0, false)
	wantStep(t, x, api.PickStep, false)
	wantStep(t, x, api.PickTime, false)
	wantStep(t, x, api.PickSpurious, true)
	wantDone(t, x, 2)
}

func TestSeqOfSeqs(t *testing.T) {
	for cut := range 1 << 5 {
		var l tape
		one := func(i int) *task.Task { return task.One(func() int { l.note(i); return i }) }
		var parts, part []*task.Task
		for i := range 6 {
			part = append(part, one(i))
			if cut>>i&1 == 1 {
				parts = append(parts, task.Seq(part...))
				part = nil
			}
		}
		x := task.Seq(append(parts, task.Seq(part...))...)
		for i := range 6 {
			wantOperation(t, x)
			wantStep(t, x, api.PickStep, true)
			if len(l) != i+1 {
				t.Fatalf("%d steps do %d tasks", i+1, len(l))
			}
		}
		wantDone(t, x, 5)
		l.want(t, 0, 1, 2, 3, 4, 5)
	}
	wantDone(t, task.Seq(task.Seq(), task.Seq(task.Seq(), nil)), 0)
}

// Tasks may be as deep in each other as the document says, and lists as long as memory lets them.
func TestDeepTasks(t *testing.T) {
	c := cells.New(1)
	add := func() *task.Task { return task.Add(c, 0, 1) }
	next := func(v int) *task.Task { return task.Ready(v + 1) }
	forms := map[string]struct {
		x            *task.Task
		steps, value int
	}{
		"Then in Then":     {wrapped(task.Load(c, 0), func(x *task.Task) *task.Task { return task.Then(x, next) }), 1, nested},
		"Seq first in Seq": {wrapped(add(), func(x *task.Task) *task.Task { return task.Seq(x, add()) }), nested + 1, nested + 1},
		"Seq last in Seq":  {wrapped(add(), func(x *task.Task) *task.Task { return task.Seq(add(), x) }), nested + 1, 2*nested + 2},
		"Then behind Then": {wrapped(add(), func(x *task.Task) *task.Task {
			return task.Then(add(), func(int) *task.Task { return x })
		}), nested + 1, 3*nested + 3},
		"Loop in Loop": {wrapped(add(), func(x *task.Task) *task.Task {
			return task.Loop(func() *task.Task { return x })
		}), 1, 3*nested + 4},
	}
	for _, name := range []string{"Then in Then", "Seq first in Seq", "Seq last in Seq", "Then behind Then", "Loop in Loop"} {
		form, steps := forms[name], 0
		for form.x.Step(api.PickStep) {
			steps++
		}
		if !form.x.Done() || steps != form.steps || form.x.Value() != form.value {
			t.Errorf("%s: Done = %v after %d steps, with %d; want %d steps, %d", name, form.x.Done(), steps, form.x.Value(), form.steps, form.value)
		}
	}
}

// wrapped is a task in so many others as may be.
func wrapped(x *task.Task, wrap func(x *task.Task) *task.Task) *task.Task {
	for range nested {
		x = wrap(x)
	}
	return x
}

func TestLongLists(t *testing.T) {
	// The stack that a list takes must not be as deep as the list is long.
	defer debug.SetMaxStack(debug.SetMaxStack(1 << 25))
	const n = 1 << 20
	c := cells.New(1)
	done, some := make([]*task.Task, n), make([]*task.Task, n)
	for i := range n {
		if i%2 == 0 {
			done[i] = task.Ready(i)
		}
		if i%1024 == 0 {
			some[i] = task.Add(c, 0, 1)
		}
	}
	wantDone(t, task.Seq(done...), 0)
	done[n-1] = task.Ready(7)
	wantDone(t, task.Seq(done...), 7)
	wantSteps(t, c, task.Seq(some...), n/1024, 0)
}

// A loop keeps nothing of the rounds that are over.
func TestALongLoopDoesNotGrow(t *testing.T) {
	const rounds = 200000
	c := filled(0, 0)
	x := task.Seq(task.Loop(func() *task.Task {
		return task.Then(task.Seq(task.Load(c, 0), task.Add(c, 0, 1)), func(v int) *task.Task {
			if v < 2*rounds {
				return task.Ready(task.Again)
			}
			return task.Ready(v)
		})
	}), task.Load(c, 0))
	half := func() uint64 {
		for range 2 * rounds {
			x.Step(api.PickStep)
		}
		runtime.GC()
		var m runtime.MemStats
		runtime.ReadMemStats(&m)
		return m.HeapAlloc
	}
	before := half()
	if after := half(); after > before+rounds {
		t.Errorf("%d bytes, %d after as many rounds again", before, after)
	}
	wantSteps(t, c, x, 1, 2*rounds)
}
