package ground_test

import (
	"math"
	"slices"
	"sync"
	"testing"

	"doorkeeper/api"
	"doorkeeper/cells"
	"doorkeeper/ground"
	"doorkeeper/task"
)

// noSteps are kinds by which a task that is not parked takes no step.
var noSteps = []int{api.PickTime, api.PickSpurious, -1, 3, 1 << 32, math.MinInt, math.MaxInt}

// operation is what was done to which cell, with which numbers.
type operation struct {
	form     string
	cell     int
	old, new uint64
}

// ledger stores cells, and records the operations on them, except for loads, which reading all cells does, too.
type ledger struct {
	cells []uint64
	done  []operation
}

func (b *ledger) Len() int { return len(b.cells) }

func (b *ledger) Load(i int) uint64 { return b.cells[i] }

func (b *ledger) Store(i int, v uint64) {
	b.done = append(b.done, operation{"store", i, 0, v})
	b.cells[i] = v
}

func (b *ledger) Swap(i int, old, new uint64) bool {
	b.done = append(b.done, operation{"swap", i, old, new})
	if b.cells[i] != old {
		return false
	}
	b.cells[i] = new
	return true
}

func (b *ledger) Add(i int, d uint64) uint64 {
	b.done = append(b.done, operation{"add", i, 0, d})
	b.cells[i] += d
	return b.cells[i]
}

// recorded returns a ground in its initial state, with cells that a ledger stores.
func recorded(m api.Map) (*ground.Ground, *ledger) {
	g := ground.New(m, nil, nil)
	b := &ledger{cells: g.Cells.All()}
	g.Cells = cells.Over(b)
	return g, b
}

// wantStep takes a step of the task, which is this operation, and which no other kind of step is.
func wantStep(t *testing.T, g *ground.Ground, b *ledger, x *task.Task, want operation) {
	t.Helper()
	for _, kind := range noSteps {
		if x.Can(kind) || x.Step(kind) {
			t.Fatalf("a step of the kind %d", kind)
		}
	}
	steps := g.Cells.Steps()
	b.done = nil
	if x.Parked() || x.Value() != 0 || !x.Can(api.PickStep) || !x.Step(api.PickStep) {
		t.Fatalf("no step; Done = %v, Parked = %v, Value = %d", x.Done(), x.Parked(), x.Value())
	}
	if g.Cells.Steps() != steps+1 || !slices.Equal(b.done, []operation{want}) {
		t.Fatalf("the step does %v, %d operations, want %v", b.done, g.Cells.Steps()-steps, want)
	}
}

// wantDone tests that the task is done, with this value, and takes no steps any more.
func wantDone(t *testing.T, x *task.Task, value int) {
	t.Helper()
	if !x.Done() || x.Parked() || x.Value() != value {
		t.Fatalf("Done = %v, Parked = %v, Value = %d, want the value %d", x.Done(), x.Parked(), x.Value(), value)
	}
	for _, kind := range append([]int{api.PickStep}, noSteps...) {
		if x.Step(kind) {
			t.Fatalf("a step of the kind %d", kind)
		}
	}
}

// wantNotDone tests that the task is about to do an operation.
func wantNotDone(t *testing.T, x *task.Task) {
	t.Helper()
	if x.Done() || x.Parked() {
		t.Fatalf("Done = %v, Parked = %v", x.Done(), x.Parked())
	}
}

// begins and ends are the operations of Begin and End.
func begins(g *ground.Ground, u int) operation {
	return operation{"swap", g.Safe(u), api.SafeOut, api.SafeRunning}
}

func ends(g *ground.Ground, u int) operation {
	return operation{"store", g.Safe(u), 0, api.SafeOut}
}

// wantSafe tests what the Safe cells of all threads contain.
func wantSafe(t *testing.T, g *ground.Ground, want ...uint64) {
	t.Helper()
	var got []uint64
	for u := range g.Threads {
		got = append(got, g.Cells.All()[g.Safe(u)])
	}
	if !slices.Equal(got, want) {
		t.Fatalf("the Safe cells are %v, want %v", got, want)
	}
}

// P13.4: Begin and End

// A thread that is out begins by one operation, and ends by one.
func TestBeginAndEnd(t *testing.T) {
	for u := range few.Threads {
		g, b := recorded(few)
		before := slices.Clone(b.cells)
		x, y := g.Begin(u), g.End(u)
		if len(b.done) != 0 || g.Cells.Steps() != 0 {
			t.Fatal("an operation ahead of the first step")
		}
		wantNotDone(t, x)
		wantStep(t, g, b, x, begins(g, u))
		wantDone(t, x, 1)
		want := []uint64{1, 1, 1}
		want[u] = 0
		wantSafe(t, g, want...)
		wantNotDone(t, y)
		wantStep(t, g, b, y, ends(g, u))
		wantDone(t, y, 1)
		if !slices.Equal(b.cells, before) {
			t.Fatalf("cells %v, were %v", b.cells, before)
		}
	}
}

// While the Safe cell is anything but SafeOut, each step of Begin tries once, and changes nothing.
func TestBeginWaits(t *testing.T) {
	for _, v := range []uint64{api.SafeRunning, api.SafeHeld, 3, 1<<32 + 1, math.MaxUint64} {
		g, b := recorded(few)
		b.cells[g.Safe(1)] = v
		before := slices.Clone(b.cells)
		x := g.Begin(1)
		for range 20 {
			wantStep(t, g, b, x, begins(g, 1))
			wantNotDone(t, x)
			if !slices.Equal(b.cells, before) {
				t.Fatalf("cells %v, were %v", b.cells, before)
			}
		}
		b.cells[g.Safe(1)] = api.SafeOut
		wantStep(t, g, b, x, begins(g, 1))
		wantDone(t, x, 1)
		wantSafe(t, g, 1, 0, 1)
	}
}

// End is a store, whatever the Safe cell was.
func TestEndFromAnything(t *testing.T) {
	for _, v := range []uint64{api.SafeRunning, api.SafeOut, api.SafeHeld, 3, math.MaxUint64} {
		g, b := recorded(few)
		b.cells[g.Safe(2)] = v
		x := g.End(2)
		wantStep(t, g, b, x, ends(g, 2))
		wantDone(t, x, 1)
		wantSafe(t, g, 1, 1, 1)
	}
}

// P13.4: Sleep

// wakings are the kinds of steps that may end the parking of a sleep, and its value then.
var wakings = []struct{ kind, value int }{{api.PickStep, 0}, {api.PickTime, 1}, {api.PickSpurious, 2}}

// Sleep is End; a parking, which ends as each of its kinds does; and Begin, which may have to wait. Its value is that of the parking.
func TestSleep(t *testing.T) {
	for u := range few.Threads {
		for _, timed := range []bool{false, true} {
			for _, w := range wakings {
				for held := range 3 {
					if w.kind == api.PickTime && !timed {
						continue
					}
					g, b := recorded(few)
					b.cells[g.Safe(u)] = api.SafeRunning
					x := g.Sleep(u, timed)
					wantNotDone(t, x)
					wantStep(t, g, b, x, ends(g, u))
					wantParked(t, g, b, x, u, timed)
					wake(t, g, b, x, u, w.kind)
					wantEndOfSleep(t, g, b, x, u, held)
					wantDone(t, x, w.value)
				}
			}
		}
	}
}

// wantParked tests that the task of the thread, which has no permit, is parked, and which steps it can take.
func wantParked(t *testing.T, g *ground.Ground, b *ledger, x *task.Task, u int, timed bool) {
	t.Helper()
	b.done = nil
	wantSafe(t, g, 1, 1, 1)
	for other := range few.Threads {
		if other != u {
			g.Permits.Give(other)
		}
	}
	if x.Done() || !x.Parked() || x.Value() != 0 {
		t.Fatalf("Done = %v, Parked = %v, Value = %d", x.Done(), x.Parked(), x.Value())
	}
	if x.Can(api.PickStep) || x.Step(api.PickStep) || x.Can(api.PickTime) != timed || !timed && x.Step(api.PickTime) || !x.Can(api.PickSpurious) {
		t.Fatal("the parking ends without a permit, or not by its time")
	}
	for _, kind := range noSteps[2:] {
		if x.Can(kind) || x.Step(kind) {
			t.Fatalf("a step of the kind %d", kind)
		}
	}
}

// wake ends the parking of the thread, by a permit if the kind is PickStep, without an operation; only then the permit is consumed.
func wake(t *testing.T, g *ground.Ground, b *ledger, x *task.Task, u, kind int) {
	t.Helper()
	g.Permits.Give(u)
	steps := g.Cells.Steps()
	if !x.Can(kind) || !x.Step(kind) || g.Cells.Steps() != steps || len(b.done) != 0 {
		t.Fatalf("the parking ends by %v, or not at all", b.done)
	}
	if g.Permits.Has(u) != (kind != api.PickStep) {
		t.Fatalf("Has = %v after a step of the kind %d", g.Permits.Has(u), kind)
	}
	for other := range few.Threads {
		if other != u && !g.Permits.Has(other) {
			t.Fatalf("the permit of the thread %d is gone", other)
		}
	}
	wantNotDone(t, x)
	wantSafe(t, g, 1, 1, 1)
}

// wantEndOfSleep tests that Begin follows, while another thread holds this one for so many steps.
func wantEndOfSleep(t *testing.T, g *ground.Ground, b *ledger, x *task.Task, u, held int) {
	t.Helper()
	b.cells[g.Safe(u)] = api.SafeHeld
	for range held {
		wantStep(t, g, b, x, begins(g, u))
		wantNotDone(t, x)
	}
	b.cells[g.Safe(u)] = api.SafeOut
	wantStep(t, g, b, x, begins(g, u))
	want := []uint64{1, 1, 1}
	want[u] = api.SafeRunning
	wantSafe(t, g, want...)
}

// A permit that was given ahead of the sleep ends it, and two count as one.
func TestSleepWithAPermit(t *testing.T) {
	twice(t, few, nil, nil, func(t *testing.T, g *ground.Ground) {
		task.Run(g.Begin(1))
		g.Permits.Give(1)
		g.Permits.Give(1)
		if v := task.Run(g.Sleep(1, true)); v != 0 || g.Permits.Has(1) {
			t.Fatalf("the value is %d; Has = %v", v, g.Permits.Has(1))
		}
		wantSafe(t, g, 1, 0, 1)
		if v := task.Run(g.Sleep(1, true)); v != 1 {
			t.Fatalf("the value is %d without a permit", v)
		}
		wantSafe(t, g, 1, 0, 1)
	})
}

// The tasks of a thread that does not exist do nothing: its cells would be those of something else.
func TestTasksOfThreadsThatDoNotExist(t *testing.T) {
	for _, u := range []int{-1, -2, few.Threads, few.Threads + 1, api.MaxThreads, 1 << 32, -1 << 32, 1 << 61, math.MinInt, math.MaxInt} {
		g, b := recorded(few)
		before := slices.Clone(b.cells)
		for _, x := range []*task.Task{g.Begin(u), g.End(u), g.Sleep(u, false), g.Sleep(u, true)} {
			wantDone(t, x, 0)
		}
		if !slices.Equal(b.cells, before) || len(b.done) != 0 {
			t.Fatalf("the thread %d does %v", u, b.done)
		}
	}
}

// Begin, End and Sleep log nothing, and change nothing that is observed.
func TestTasksLogNothing(t *testing.T) {
	twice(t, few, nil, nil, func(t *testing.T, g *ground.Ground) {
		put(g, 0, packed(t, api.Header{Tag: api.TagFat}))
		g.Cells.Store(g.Hold(0), api.HoldOf(0, 2))
		wait(g, 0, 1, 2)
		for u := range few.Threads {
			task.Run(task.Seq(g.Begin(u), g.Sleep(u, true), g.End(u)))
			wantView(t, g, 0, 0, 2, 1, 2)
		}
		wantLog(t, g, nil)
	})
}

// With goroutines: those that begin a thread run it one at a time, so nothing that they do meanwhile is lost.
func TestBeginsExclude(t *testing.T) {
	const goroutines, times = 6, 300
	g := ground.Real(few, nil, nil)
	sum := 0
	var all sync.WaitGroup
	for range goroutines {
		all.Go(func() {
			for range times {
				task.Run(g.Begin(0))
				sum++
				task.Run(g.End(0))
			}
		})
	}
	all.Wait()
	if sum != goroutines*times {
		t.Errorf("%d, want %d", sum, goroutines*times)
	}
	wantSafe(t, g, 1, 1, 1)
}

// With goroutines: threads sleep till the one ahead gives them a permit.
func TestSleepsInTurn(t *testing.T) {
	const rounds = 300
	g := ground.Real(few, nil, nil)
	sum := 0
	var all sync.WaitGroup
	for u := range few.Threads {
		all.Go(func() {
			task.Run(g.Begin(u))
			for range rounds {
				if v := task.Run(g.Sleep(u, false)); v != 0 {
					t.Errorf("the value is %d", v)
				}
				sum++
				g.Permits.Give((u + 1) % few.Threads)
			}
			task.Run(g.End(u))
		})
	}
	g.Permits.Give(0)
	all.Wait()
	if sum != rounds*few.Threads {
		t.Errorf("%d, want %d", sum, rounds*few.Threads)
	}
	wantSafe(t, g, 1, 1, 1)
}
