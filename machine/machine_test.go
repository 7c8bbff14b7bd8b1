package machine_test

import (
	"math"
	"slices"
	"testing"

	"doorkeeper/api"
	"doorkeeper/cells"
	"doorkeeper/machine"
	"doorkeeper/permit"
	"doorkeeper/task"
)

// The kinds of picks.
const (
	step     = api.PickStep
	timed    = api.PickTime
	spurious = api.PickSpurious
)

// kinds are all kinds of picks.
var kinds = []int{step, timed, spurious}

// noKinds are no kinds; some look right when the bits above are cut off.
var noKinds = []int{-1, -2, 3, 4, 255, 256, 258, 1 << 16, 1 << 32, 1<<32 + 1, 1<<32 + 2, math.MinInt32, math.MinInt, math.MaxInt}

// absent are no threads of a machine that has up to some thousands.
var absent = []int{-1, -2, 1 << 16, 1 << 32, 1<<32 + 1, -1 << 32, math.MinInt32, math.MinInt, math.MaxInt32, math.MaxInt}

// picks are picks of these threads, by PickStep.
func picks(threads ...int) []api.Pick {
	var l []api.Pick
	for _, t := range threads {
		l = append(l, api.Pick{Thread: t, Kind: step})
	}
	return l
}

// wantPick tests what Pick returns, and that Can told so.
func wantPick(t *testing.T, m *machine.Machine, thread, kind int, want bool) {
	t.Helper()
	p := api.Pick{Thread: thread, Kind: kind}
	can := m.Can(p)
	if again := m.Can(p); again != can {
		t.Fatalf("Can(%v) = %v, and then %v", p, can, again)
	}
	if got := m.Pick(p); got != want || can != want {
		t.Fatalf("Pick(%v) = %v, after Can = %v, want %v", p, got, can, want)
	}
}

// wantNumber tests the number that a thread was given.
func wantNumber(t *testing.T, m *machine.Machine, got, want int) {
	t.Helper()
	if got != want || m.Threads() != want+1 {
		t.Fatalf("the thread %d of %d, want %d of %d", got, m.Threads(), want, want+1)
	}
}

// wantState tests whether the thread is done, and parked, and the values of its tasks.
func wantState(t *testing.T, m *machine.Machine, thread int, done, parked bool, values ...int) {
	t.Helper()
	if got := m.Done(thread); got != done {
		t.Fatalf("Done(%d) = %v", thread, got)
	}
	if got := m.Parked(thread); got != parked {
		t.Fatalf("Parked(%d) = %v", thread, got)
	}
	if got := m.Values(thread); !slices.Equal(got, values) {
		t.Fatalf("Values(%d) = %v, want %v", thread, got, values)
	}
}

// wantEnded tests that the thread is done, with these values, and that no pick of it does anything.
func wantEnded(t *testing.T, m *machine.Machine, thread int, values ...int) {
	t.Helper()
	for range 2 {
		wantState(t, m, thread, true, false, values...)
		for _, kind := range slices.Concat(kinds, noKinds) {
			wantPick(t, m, thread, kind, false)
		}
		if slices.Contains(m.Able(), thread) {
			t.Fatalf("Able = %v", m.Able())
		}
	}
}

// wantAll tests which threads can take a step, and whether all are done.
func wantAll(t *testing.T, m *machine.Machine, over bool, able ...int) {
	t.Helper()
	if got := m.Over(); got != over {
		t.Fatalf("Over = %v", got)
	}
	if got := m.Able(); !slices.Equal(got, able) {
		t.Fatalf("Able = %v, want %v", got, able)
	}
}

// wantCells tests what the cells have, and the number of operations so far.
func wantCells(t *testing.T, c *cells.Cells, steps int, want ...uint64) {
	t.Helper()
	if got := c.All(); !slices.Equal(got, want) || c.Steps() != steps {
		t.Fatalf("cells %v after %d operations, want %v after %d", got, c.Steps(), want, steps)
	}
}

// tape records numbers, in order.
type tape []int

func (l *tape) note(v int) { *l = append(*l, v) }

func (l tape) want(t *testing.T, want ...int) {
	t.Helper()
	if !slices.Equal(l, want) {
		t.Fatalf("recorded %v, want %v", l, want)
	}
}

// supply is a function that records what it is called with, and returns the tasks of l, and then none.
func (l *tape) supply(tasks ...*task.Task) func(i int) *task.Task {
	return func(i int) *task.Task {
		l.note(i)
		if i < 0 || i >= len(tasks) {
			return nil
		}
		return tasks[i]
	}
}

// P8.1: New, Add, Threads

func TestMachineWithoutThreads(t *testing.T) {
	m := machine.New()
	if m == nil || m.Threads() != 0 {
		t.Fatal("not a machine without threads")
	}
	wantAll(t, m, true)
	for _, thread := range append(absent, 0, 1) {
		wantEnded(t, m, thread)
	}
	if n := m.Run(picks(0, 1, -1)); n != 0 {
		t.Fatalf("Run = %d", n)
	}
	wantNumber(t, m, m.Add(), 0)
}

func TestMachinesHaveTheirOwnThreads(t *testing.T) {
	c := cells.New(1)
	one, other := machine.New(), machine.New()
	one.Add(task.Add(c, 0, 1))
	if other.Threads() != 0 {
		t.Fatal("a thread of another machine")
	}
	wantNumber(t, other, other.Add(task.Add(c, 0, 10)), 0)
	wantPick(t, one, 0, step, true)
	wantState(t, other, 0, false, false)
	wantCells(t, c, 1, 1)
}

func TestThreadsAreCountedFromZero(t *testing.T) {
	const threads = 3000
	m, c := machine.New(), cells.New(1)
	var able []int
	for n := range threads {
		able = append(able, n)
		if n%3 == 0 {
			wantNumber(t, m, m.Make(func(i int) *task.Task {
				if i > 0 {
					return nil
				}
				return task.Add(c, 0, uint64(n))
			}), n)
			continue
		}
		wantNumber(t, m, m.Add(task.Add(c, 0, uint64(n))), n)
	}
	wantAll(t, m, false, able...)
	sum := 0
	for n := range threads {
		if m.Over() {
			t.Fatalf("over ahead of the thread %d", n)
		}
		wantPick(t, m, n, step, true)
		sum += n
		wantState(t, m, n, true, false, sum)
	}
	wantAll(t, m, true)
}

func TestAddDoesNoOperation(t *testing.T) {
	m, c := machine.New(), cells.New(1)
	wantNumber(t, m, m.Add(task.Add(c, 0, 1), task.Add(c, 0, 2)), 0)
	wantNumber(t, m, m.Make(func(i int) *task.Task { return task.Add(c, 0, 5) }), 1)
	wantCells(t, c, 0, 0)
	wantState(t, m, 0, false, false)
	wantState(t, m, 1, false, false)
	wantAll(t, m, false, 0, 1)
}

func TestAddOfSeveralTasks(t *testing.T) {
	m, c := machine.New(), cells.New(1)
	m.Add(task.Add(c, 0, 1), task.Seq(task.Add(c, 0, 2), task.Add(c, 0, 4)), task.Add(c, 0, 8))
	wantPick(t, m, 0, step, true)
	wantState(t, m, 0, false, false, 1)
	wantPick(t, m, 0, step, true)
	wantState(t, m, 0, false, false, 1)
	wantCells(t, c, 2, 3)
	wantPick(t, m, 0, step, true)
	wantState(t, m, 0, false, false, 1, 7)
	wantAll(t, m, false, 0)
	wantPick(t, m, 0, step, true)
	wantEnded(t, m, 0, 1, 7, 15)
	wantAll(t, m, true)
	wantCells(t, c, 4, 15)
}

func TestAddOfNoTasks(t *testing.T) {
	m := machine.New()
	wantNumber(t, m, m.Add(), 0)
	wantNumber(t, m, m.Add([]*task.Task{}...), 1)
	for n := range 2 {
		wantEnded(t, m, n)
	}
	wantAll(t, m, true)
}

func TestAddOfTasksThatAreDone(t *testing.T) {
	m, c := machine.New(), cells.New(1)
	wantNumber(t, m, m.Add(task.Ready(5)), 0)
	wantEnded(t, m, 0, 5)
	wantNumber(t, m, m.Add(task.Ready(5), task.Ready(-6), task.Ready(task.Again)), 1)
	wantEnded(t, m, 1, 5, -6, task.Again)
	wantNumber(t, m, m.Add(task.Ready(5), task.Ready(6), task.Add(c, 0, 1)), 2)
	wantState(t, m, 2, false, false, 5, 6)
	wantPick(t, m, 2, step, true)
	wantEnded(t, m, 2, 5, 6, 1)
	wantNumber(t, m, m.Add(task.Add(c, 0, 1), task.Ready(5), task.Ready(6), task.Add(c, 0, 1), task.Ready(7)), 3)
	wantPick(t, m, 3, step, true)
	if m.Done(3) {
		t.Fatal("done, and yet there is a task")
	}
	wantPick(t, m, 3, step, true)
	wantEnded(t, m, 3, 2, 5, 6, 3, 7)
	wantCells(t, c, 3, 3)
}

func TestAddOfTasksThatHaveBegun(t *testing.T) {
	m, c := machine.New(), cells.New(1)
	begun := task.Seq(task.Add(c, 0, 1), task.Add(c, 0, 2))
	begun.Step(step)
	ended := task.Add(c, 0, 4)
	ended.Step(step)
	m.Add(ended, begun)
	wantState(t, m, 0, false, false, 5)
	wantPick(t, m, 0, step, true)
	wantEnded(t, m, 0, 5, 7)
	wantCells(t, c, 3, 7)
}

// A nil task is like one that is done, with 0.
func TestAddOfNilTasks(t *testing.T) {
	m, c := machine.New(), cells.New(1)
	m.Add(nil, task.Add(c, 0, 3), nil, nil, task.Add(c, 0, 3), nil)
	wantState(t, m, 0, false, false, 0)
	wantPick(t, m, 0, step, true)
	wantPick(t, m, 0, step, true)
	wantEnded(t, m, 0, 0, 3, 0, 0, 6, 0)
	var none *task.Task
	m.Add(none)
	wantEnded(t, m, 1, 0)
	m.Add(new(task.Task), none, task.Ready(1))
	wantEnded(t, m, 2, 0, 0, 1)
}

func TestAddKeepsNoList(t *testing.T) {
	m, c := machine.New(), cells.New(1)
	l := []*task.Task{task.Add(c, 0, 1), task.Add(c, 0, 2), task.Add(c, 0, 4)}
	want := slices.Clone(l)
	m.Add(l...)
	m.Run(picks(0))
	if !slices.Equal(l, want) {
		t.Fatal("the list is another one")
	}
	for i := range l {
		l[i] = task.Store(c, 0, 99)
	}
	m.Run(picks(0, 0))
	wantEnded(t, m, 0, 1, 3, 7)
	if l[0].Done() || l[1].Done() || l[2].Done() {
		t.Fatal("a step of a task of another list")
	}
}

func TestLongLists(t *testing.T) {
	const n = 1 << 20
	m, c := machine.New(), cells.New(1)
	l := make([]*task.Task, n)
	for i := range l {
		l[i] = task.Ready(i)
	}
	l[0], l[n-1] = task.Add(c, 0, 7), task.Add(c, 0, 7)
	m.Add(l...)
	m.Make(func(i int) *task.Task {
		if i == n {
			return nil
		}
		if i == 0 || i == n-1 {
			return task.Add(c, 0, 7)
		}
		return task.Ready(i)
	})
	for thread := range 2 {
		wantPick(t, m, thread, step, true)
		if m.Done(thread) {
			t.Fatal("done ahead of the last task")
		}
		wantPick(t, m, thread, step, true)
		values := m.Values(thread)
		if !m.Done(thread) || len(values) != n || values[1] != 1 || values[n-2] != n-2 {
			t.Fatalf("%d values", len(values))
		}
	}
	wantCells(t, c, 4, 28)
}

// P8.1: Make

func TestMake(t *testing.T) {
	var l tape
	m, c := machine.New(), cells.New(1)
	wantNumber(t, m, m.Make(l.supply(task.Add(c, 0, 1), task.Seq(task.Add(c, 0, 2), task.Add(c, 0, 4)), task.Add(c, 0, 8))), 0)
	l.want(t, 0)
	wantState(t, m, 0, false, false)
	wantPick(t, m, 0, timed, false)
	wantPick(t, m, 0, spurious, false)
	l.want(t, 0)
	wantPick(t, m, 0, step, true)
	// The next one is known in the same step, but its operation is not done.
	l.want(t, 0, 1)
	wantState(t, m, 0, false, false, 1)
	wantCells(t, c, 1, 1)
	wantPick(t, m, 0, step, true)
	l.want(t, 0, 1)
	wantPick(t, m, 0, step, true)
	l.want(t, 0, 1, 2)
	wantState(t, m, 0, false, false, 1, 7)
	wantPick(t, m, 0, step, true)
	l.want(t, 0, 1, 2, 3)
	wantEnded(t, m, 0, 1, 7, 15)
	// Behind the nil one, none is asked for.
	l.want(t, 0, 1, 2, 3)
	wantAll(t, m, true)
}

func TestMakeOfTasksThatAreDone(t *testing.T) {
	var l tape
	m, c := machine.New(), cells.New(1)
	wantNumber(t, m, m.Make(l.supply(task.Ready(5))), 0)
	l.want(t, 0, 1)
	wantEnded(t, m, 0, 5)
	l = nil
	wantNumber(t, m, m.Make(l.supply(task.Ready(5), new(task.Task), task.Ready(task.Again), task.Add(c, 0, 1), task.Ready(7), task.Ready(8), task.Add(c, 0, 1), task.Ready(9))), 1)
	l.want(t, 0, 1, 2, 3)
	wantState(t, m, 1, false, false, 5, 0, task.Again)
	wantPick(t, m, 1, step, true)
	l.want(t, 0, 1, 2, 3, 4, 5, 6)
	wantState(t, m, 1, false, false, 5, 0, task.Again, 1, 7, 8)
	wantPick(t, m, 1, step, true)
	l.want(t, 0, 1, 2, 3, 4, 5, 6, 7, 8)
	wantEnded(t, m, 1, 5, 0, task.Again, 1, 7, 8, 2, 9)
	wantCells(t, c, 2, 2)
}

func TestMakeOfNoTasks(t *testing.T) {
	var l tape
	m := machine.New()
	wantNumber(t, m, m.Make(l.supply()), 0)
	l.want(t, 0)
	wantEnded(t, m, 0)
	wantNumber(t, m, m.Make(nil), 1)
	wantEnded(t, m, 1)
	l.want(t, 0)
	wantAll(t, m, true)
}

// The tasks behind the first nil one do not count.
func TestMakeEndsWithTheFirstNilTask(t *testing.T) {
	var l tape
	m, c := machine.New(), cells.New(1)
	m.Make(l.supply(nil, task.Add(c, 0, 1)))
	l.want(t, 0)
	wantEnded(t, m, 0)
	l = nil
	m.Make(l.supply(task.Ready(4), nil, task.Add(c, 0, 1)))
	l.want(t, 0, 1)
	wantEnded(t, m, 1, 4)
	l = nil
	m.Make(l.supply(task.Add(c, 0, 1), nil, task.Add(c, 0, 1), task.Ready(3)))
	l.want(t, 0)
	wantPick(t, m, 2, step, true)
	l.want(t, 0, 1)
	wantEnded(t, m, 2, 1)
	l.want(t, 0, 1)
	wantAll(t, m, true)
	wantCells(t, c, 1, 1)
}

// What a task is may depend on what the one ahead of it did.
func TestMakeInTheStepThatEndsATask(t *testing.T) {
	m, c := machine.New(), cells.New(2)
	m.Make(func(i int) *task.Task {
		v := c.All()[0]
		if v >= 5 {
			return nil
		}
		return task.Seq(task.Add(c, 1, v), task.Add(c, 0, 1))
	})
	m.Add(task.Add(c, 0, 2), task.Add(c, 1, 100))
	// The thread 1 comes between the two steps of a task, and at once behind one.
	m.Run(picks(0, 1, 0))
	wantState(t, m, 0, false, false, 3)
	m.Run(picks(1, 0))
	wantCells(t, c, 5, 3, 103)
	m.Run(picks(0, 0, 0))
	wantEnded(t, m, 0, 3, 4, 5)
	wantCells(t, c, 8, 5, 107)
}

func TestMakeOfAFunctionThatPanics(t *testing.T) {
	m, c := machine.New(), cells.New(1)
	wantNumber(t, m, m.Make(func(i int) *task.Task { panic(i) }), 0)
	wantNumber(t, m, m.Make(func(i int) *task.Task {
		var none []*task.Task
		if i > 0 {
			return none[i]
		}
		return task.Add(c, 0, 1)
	}), 1)
	wantPick(t, m, 1, step, true)
	for thread := range 2 {
		m.Pick(api.Pick{Thread: thread})
		m.Can(api.Pick{Thread: thread})
		m.Parked(thread)
	}
	wantNumber(t, m, m.Add(task.Add(c, 0, 1)), 2)
	wantPick(t, m, 2, step, true)
	wantEnded(t, m, 2, 2)
}

// A thread may be added by what another one does, in a step of it.
func TestThreadsThatAddThreads(t *testing.T) {
	m, c := machine.New(), cells.New(1)
	m.Add(task.One(func() int { return m.Add(task.Add(c, 0, 1)) }), task.Add(c, 0, 10))
	m.Make(func(i int) *task.Task {
		switch i {
		case 0:
			return task.Add(c, 0, 100)
		case 1:
			return task.Ready(m.Add(task.Add(c, 0, 1000), task.Add(c, 0, 10000)))
		}
		return nil
	})
	wantAll(t, m, false, 0, 1)
	wantPick(t, m, 0, step, true)
	wantState(t, m, 0, false, false, 2)
	wantAll(t, m, false, 0, 1, 2)
	wantPick(t, m, 1, step, true)
	wantEnded(t, m, 1, 100, 3)
	wantAll(t, m, false, 0, 2, 3)
	if n := m.Run(picks(3, 2, 0, 3, 4)); n != 4 {
		t.Fatalf("Run = %d", n)
	}
	wantEnded(t, m, 0, 2, 1111)
	wantEnded(t, m, 2, 1101)
	wantEnded(t, m, 3, 1100, 11111)
	wantAll(t, m, true)
}

// A thread may be added while another one is: each has a number of its own.
func TestThreadsThatAreAddedTogether(t *testing.T) {
	m, c := machine.New(), cells.New(1)
	inner := -1
	outer := m.Make(func(i int) *task.Task {
		if i > 0 {
			return nil
		}
		inner = m.Add(task.Add(c, 0, 1))
		return task.Add(c, 0, 10)
	})
	if m.Threads() != 2 || inner+outer != 1 || inner*outer != 0 {
		t.Fatalf("the threads %d and %d of %d", inner, outer, m.Threads())
	}
	wantPick(t, m, inner, step, true)
	wantEnded(t, m, inner, 1)
	wantPick(t, m, outer, step, true)
	wantEnded(t, m, outer, 11)
}

// P8.2

func TestPicksOfThreadsThatDoNotExist(t *testing.T) {
	m, c, p := machine.New(), cells.New(1), permit.New(1)
	m.Add(task.Add(c, 0, 1), task.Add(c, 0, 1))
	m.Add(task.Park(p, 0, true))
	for _, thread := range append(absent, 2, 3) {
		wantEnded(t, m, thread)
	}
	wantState(t, m, 0, false, false)
	wantState(t, m, 1, false, true)
	wantCells(t, c, 0, 0)
	wantAll(t, m, false, 0)
}

func TestPicksOfATaskThatIsNotParked(t *testing.T) {
	m, c, p := machine.New(), cells.New(1), permit.New(1)
	m.Add(task.Add(c, 0, 1), task.Add(c, 0, 2))
	for n := range 2 {
		for _, kind := range append(noKinds, timed, spurious) {
			wantPick(t, m, 0, kind, false)
		}
		p.Give(0)
		wantCells(t, c, n, uint64(n))
		wantPick(t, m, 0, step, true)
	}
	wantEnded(t, m, 0, 1, 3)
	if !p.Has(0) {
		t.Fatal("a permit is taken that no task is parked for")
	}
}

func TestPicksOfATaskThatIsParked(t *testing.T) {
	for _, has := range []bool{false, true} {
		for _, withTime := range []bool{false, true} {
			for _, kind := range append(noKinds, kinds...) {
				wantParking(t, has, withTime, kind)
			}
		}
	}
}

// wantParking tests the pick of a task that is parked.
func wantParking(t *testing.T, has, withTime bool, kind int) {
	t.Helper()
	m, c, p := machine.New(), cells.New(1), permit.New(2)
	m.Add(task.Park(p, 1, withTime), task.Add(c, 0, 1))
	p.Give(0)
	if has {
		p.Give(1)
	}
	wantState(t, m, 0, false, true)
	if has {
		wantAll(t, m, false, 0)
	} else {
		wantAll(t, m, false)
	}
	ends := map[int]bool{step: has, timed: withTime, spurious: true}[kind]
	wantPick(t, m, 0, kind, ends)
	if p.Has(1) != (has && kind != step) || !p.Has(0) {
		t.Fatalf("the permits are %v, %v", p.Has(0), p.Has(1))
	}
	wantCells(t, c, 0, 0)
	if !ends {
		wantState(t, m, 0, false, true)
		return
	}
	// The value of a parking is the kind of the step that ended it.
	wantState(t, m, 0, false, false, kind)
	wantAll(t, m, false, 0)
	wantPick(t, m, 0, step, true)
	wantEnded(t, m, 0, kind, 1)
}

func TestParkedThreads(t *testing.T) {
	m, c, p := machine.New(), cells.New(1), permit.New(3)
	m.Add(task.Add(c, 0, 1), task.Park(p, 0, false))
	m.Add(task.Park(p, 1, true), task.Park(p, 1, false))
	m.Add(task.Seq(task.Add(c, 0, 1), task.Park(p, 2, false), task.Add(c, 0, 1)))
	wantAll(t, m, false, 0, 2)
	wantPick(t, m, 0, step, true)
	wantState(t, m, 0, false, true, 1)
	wantState(t, m, 1, false, true)
	wantState(t, m, 2, false, false)
	wantAll(t, m, false, 2)
	wantPick(t, m, 2, step, true)
	wantState(t, m, 2, false, true)
	wantAll(t, m, false)
	p.Give(1)
	p.Give(2)
	wantAll(t, m, false, 1, 2)
	wantPick(t, m, 1, timed, true)
	// The permit is still there, for the second parking.
	wantState(t, m, 1, false, true, 1)
	wantPick(t, m, 1, timed, false)
	wantPick(t, m, 1, step, true)
	wantEnded(t, m, 1, 1, 0)
	wantPick(t, m, 2, step, true)
	wantState(t, m, 2, false, false)
	wantPick(t, m, 2, step, true)
	wantEnded(t, m, 2, 3)
	wantAll(t, m, false)
	wantPick(t, m, 0, spurious, true)
	wantEnded(t, m, 0, 1, 2)
	wantAll(t, m, true)
}

func TestCanDoesNothing(t *testing.T) {
	var l tape
	m, c, p := machine.New(), cells.New(1), permit.New(1)
	m.Make(l.supply(task.Add(c, 0, 1)))
	m.Add(task.Park(p, 0, true))
	p.Give(0)
	for range 3 {
		for _, kind := range append(noKinds, kinds...) {
			m.Can(api.Pick{Thread: 0, Kind: kind})
			m.Can(api.Pick{Thread: 1, Kind: kind})
		}
		m.Able()
		m.Over()
		m.Parked(1)
	}
	wantCells(t, c, 0, 0)
	wantState(t, m, 0, false, false)
	wantState(t, m, 1, false, true)
	l.want(t, 0)
	if !p.Has(0) {
		t.Fatal("a permit is taken without a pick")
	}
}

func TestRun(t *testing.T) {
	m, c, p := machine.New(), cells.New(2), permit.New(1)
	m.Add(task.Add(c, 0, 1), task.Park(p, 0, true), task.Add(c, 0, 10))
	m.Add(task.Store(c, 1, 7), task.Load(c, 0))
	l := []api.Pick{{Thread: 0, Kind: step}, {Thread: 0, Kind: step}, {Thread: 0, Kind: timed}, {Thread: 7, Kind: step}, {Thread: 1, Kind: spurious},
		{Thread: 1, Kind: step}, {Thread: 0, Kind: step}, {Thread: 0, Kind: step}, {Thread: 1, Kind: step}, {Thread: 1, Kind: 9}, {Thread: 1, Kind: step}, {Thread: -1, Kind: step}}
	before := slices.Clone(l)
	if n := m.Run(l); n != 5 {
		t.Fatalf("Run = %d", n)
	}
	if !slices.Equal(l, before) {
		t.Fatal("the picks are others")
	}
	wantEnded(t, m, 0, 1, 1, 11)
	wantEnded(t, m, 1, 1, 11)
	if n := m.Run(l); n != 0 {
		t.Fatalf("Run = %d, of threads that are done", n)
	}
	wantCells(t, c, 4, 11, 7)
}

func TestRunOfNoPicks(t *testing.T) {
	m, c := machine.New(), cells.New(1)
	m.Add(task.Add(c, 0, 1))
	if m.Run(nil) != 0 || m.Run([]api.Pick{}) != 0 {
		t.Fatal("no picks, and yet a step")
	}
	wantState(t, m, 0, false, false)
	wantCells(t, c, 0, 0)
}

// P8.3

func TestValuesBelongToTheCaller(t *testing.T) {
	m, c := machine.New(), cells.New(1)
	m.Add(task.Add(c, 0, 1), task.Add(c, 0, 1), task.Add(c, 0, 1))
	m.Run(picks(0, 0))
	first := m.Values(0)
	first[0] = 99
	_ = append(first, 98)
	wantState(t, m, 0, false, false, 1, 2)
	second := m.Values(0)
	m.Run(picks(0))
	wantState(t, m, 0, true, false, 1, 2, 3)
	if !slices.Equal(first, []int{99, 2}) || !slices.Equal(second, []int{1, 2}) {
		t.Fatal("a step changed the values that were returned before")
	}
}

func TestAbleBelongsToTheCaller(t *testing.T) {
	m, c := machine.New(), cells.New(1)
	for range 3 {
		m.Add(task.Add(c, 0, 1))
	}
	first := m.Able()
	first[0], first[2] = 99, 98
	wantAll(t, m, false, 0, 1, 2)
	m.Run(picks(1))
	wantAll(t, m, false, 0, 2)
	if !slices.Equal(first, []int{99, 1, 98}) {
		t.Fatal("a step changed the threads that were returned before")
	}
}

// A machine is over when the last thread is done, whichever that is.
func TestOver(t *testing.T) {
	for last := range 4 {
		m, c, p := machine.New(), cells.New(1), permit.New(1)
		for thread := range 4 {
			if thread == last {
				m.Add(task.Add(c, 0, 1), task.Park(p, 0, false))
				continue
			}
			m.Add(task.Add(c, 0, 1))
		}
		m.Run(picks(3, 2, 1, 0))
		wantAll(t, m, false)
		wantPick(t, m, last, spurious, true)
		wantAll(t, m, true)
		m.Add(task.Ready(1))
		wantAll(t, m, true)
		m.Add(task.Add(c, 0, 1))
		wantAll(t, m, false, 5)
	}
}

func TestNilMachine(t *testing.T) {
	var m *machine.Machine
	c := cells.New(1)
	if n := m.Add(task.Add(c, 0, 1)); n != -1 {
		t.Fatalf("Add = %d", n)
	}
	if n := m.Add(); n != -1 {
		t.Fatalf("Add = %d", n)
	}
	if n := m.Make(func(i int) *task.Task { return task.Add(c, 0, 1) }); n != -1 {
		t.Fatalf("Make = %d", n)
	}
	if n := m.Make(nil); n != -1 {
		t.Fatalf("Make = %d", n)
	}
	if m.Threads() != 0 || m.Run(picks(0, 0)) != 0 || m.Run(nil) != 0 {
		t.Fatal("threads, or steps, of a nil machine")
	}
	for _, thread := range append(absent, 0, 1) {
		wantEnded(t, m, thread)
	}
	wantAll(t, m, true)
	wantCells(t, c, 0, 0)
}

// The chapter's examples.
func TestExamples(t *testing.T) {
	m, c := machine.New(), cells.New(1)
	m.Add(task.Add(c, 0, 1), task.Add(c, 0, 2))
	m.Add(task.Add(c, 0, 10))
	for i, want := range []bool{true, true, false, true, false} {
		wantPick(t, m, []int{0, 1, 1, 0, 0}[i], step, want)
	}
	wantCells(t, c, 3, 13)
	wantEnded(t, m, 0, 1, 13)
	wantEnded(t, m, 1, 11)

	m, c = machine.New(), cells.New(1)
	m.Add(task.Add(c, 0, 1), task.Add(c, 0, 2))
	m.Add(task.Add(c, 0, 10))
	wantPick(t, m, 2, step, false)
	wantPick(t, m, 0, timed, false)
	wantCells(t, c, 0, 0)
}

// P8.4

// Two threads that load a cell, and then store one more in it, may together add 1: the pick of one does nothing of the other.
func TestPicksInterleave(t *testing.T) {
	sums := map[uint64]int{}
	for schedule := range 1 << 4 {
		m, c := machine.New(), cells.New(1)
		for range 2 {
			m.Add(task.Then(task.Load(c, 0), func(v int) *task.Task { return task.Store(c, 0, uint64(v+1)) }))
		}
		n := 0
		for i := range 4 {
			n += m.Run(picks(schedule >> i & 1))
		}
		if n == 4 {
			sums[c.Load(0)]++
		}
	}
	// Of the six orders of the steps, two are one thread behind the other.
	if sums[1] != 4 || sums[2] != 2 || len(sums) != 2 {
		t.Fatal(sums)
	}
}

func TestAPickChangesOnlyItsThread(t *testing.T) {
	m, c, p := machine.New(), cells.New(3), permit.New(3)
	for thread := range 3 {
		m.Add(task.Add(c, thread, 1), task.Park(p, thread, true), task.Add(c, thread, 1))
	}
	m.Run(picks(1))
	m.Pick(api.Pick{Thread: 1, Kind: timed})
	m.Run(picks(2))
	wantCells(t, c, 2, 0, 1, 1)
	wantState(t, m, 0, false, false)
	wantState(t, m, 1, false, false, 1, 1)
	wantState(t, m, 2, false, true, 1)
	m.Run(picks(0))
	wantState(t, m, 0, false, true, 1)
	wantState(t, m, 1, false, false, 1, 1)
	wantState(t, m, 2, false, true, 1)
	wantCells(t, c, 3, 1, 1, 1)
	m.Run(picks(1))
	wantEnded(t, m, 1, 1, 1, 2)
	wantState(t, m, 0, false, true, 1)
	wantState(t, m, 2, false, true, 1)
	wantCells(t, c, 4, 1, 2, 1)
}

func TestNoTaskComesBeforeTheOneAheadHasEnded(t *testing.T) {
	m, c, p := machine.New(), cells.New(2), permit.New(1)
	m.Add(task.Spin(c, 0, 1, 2), task.Add(c, 1, 1))
	m.Add(task.Park(p, 0, false), task.Add(c, 1, 1))
	m.Add(task.Store(c, 0, 1))
	for n := range 5 {
		// A Swap that does not succeed is a step of the first task.
		wantPick(t, m, 0, step, true)
		wantPick(t, m, 1, step, false)
		wantCells(t, c, n+1, 0, 0)
	}
	wantState(t, m, 0, false, false)
	wantPick(t, m, 2, step, true)
	wantPick(t, m, 0, step, true)
	wantState(t, m, 0, false, false, 1)
	wantCells(t, c, 7, 2, 0)
	p.Give(0)
	wantPick(t, m, 1, step, true)
	wantState(t, m, 1, false, false, 0)
	wantCells(t, c, 7, 2, 0)
	m.Run(picks(1, 0))
	wantEnded(t, m, 0, 1, 2)
	wantEnded(t, m, 1, 0, 1)
}
