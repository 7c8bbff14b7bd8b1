package wake_test

import (
	"math"
	"slices"
	"testing"

	"doorkeeper/api"
	"doorkeeper/fat"
	"doorkeeper/task"
	"doorkeeper/wake"
)

// waking is how a thread is woken: by a pick of this kind, with its flag like this, in a sleep that is timed, or not.
type waking struct {
	kind  int
	timed bool
	flag  uint64
}

// none is how a wait ends that does not.
const none = -1

// how returns how the wait of a thread ends that is woken so, and still waits.
func (w waking) how() int {
	switch {
	case w.flag != 0:
		return api.HowInterrupted
	case w.kind == api.PickTime:
		return api.HowTimed
	case w.kind == api.PickSpurious:
		return api.HowSpurious
	}
	return none
}

// wakings are all of them that may be.
func wakings() []waking {
	var l []waking
	for _, kind := range []int{api.PickStep, api.PickTime, api.PickSpurious} {
		for _, timed := range []bool{false, true} {
			for _, flag := range []uint64{0, 1, 2, 1 << 40, math.MaxUint64} {
				if kind != api.PickTime || timed {
					l = append(l, waking{kind, timed, flag})
				}
			}
		}
	}
	return l
}

// sleepsTill lets the thread go to sleep, and wakes it.
func (x *scene) sleepsTill(a *task.Task, u int, w waking) {
	x.Helper()
	x.sleeps(a, u, w.timed)
	x.wakes(a, u, w.kind)
}

// sleeps lets the thread go to sleep.
func (x *scene) sleeps(a *task.Task, u int, timed bool) {
	x.Helper()
	x.wantStep(a, x.ends(u))
	x.wantParked(a, u, timed)
}

// wakes wakes the thread by a pick of this kind, for which it gets a permit if it needs one.
func (x *scene) wakes(a *task.Task, u, kind int) {
	x.Helper()
	if kind == api.PickStep {
		if a.Step(kind) {
			x.Fatalf("a thread without a permit wakes by PickStep")
		}
		x.Permits.Give(u)
	}
	x.wantNoOperation(a, kind)
	x.wantStep(a, x.begins(u))
}

// A wait's scene: the threads that wait, in order, and those that wait to enter; the owner, and how deep all of them are.
type waits struct {
	wait, entry  []int
	owner, depth int
}

// newWaits has such a scene; the flag of one of the threads is like this.
func newWaits(t *testing.T, l waits, u int, flag uint64) *scene {
	x := newScene(t).waiting(l.depth, l.wait...).entering(0, l.entry...)
	if l.owner >= 0 {
		x.owned(l.owner, l.depth+1)
	}
	x.b.cells[x.Flag(u)] = flag
	return x
}

// wantView tests that the view of the scene is as it was at first, without this thread.
func (l waits) wantView(x *scene, but int) {
	x.Helper()
	depth := 0
	if l.owner >= 0 {
		depth = l.depth + 1
	}
	x.wantView(l.owner, depth, without(l.wait, but)...)
}

// without returns the list without this thread.
func without(l []int, u int) []int {
	return slices.DeleteFunc(slices.Clone(l), func(v int) bool { return v == u })
}

// P15.1: the owner

// A thread that wakes as the owner was notified, however it was woken: that is one operation, without the latch, and its flag stays as it is.
func TestRestOfTheOwner(t *testing.T) {
	for _, w := range wakings() {
		for _, depth := range []int{1, 3, api.MaxDepth} {
			x := newWaits(t, waits{[]int{2, 3}, []int{4}, -1, 7}, 1, w.flag)
			x.b.cells[x.Safe(1)] = api.SafeRunning
			// Another thread that holds the latch does not keep it waiting.
			x.b.cells[x.Latch(x.n)] = 1
			a := x.rest(1, w.timed)
			x.sleeps(a, 1, w.timed)
			x.owned(1, depth)
			x.wakes(a, 1, w.kind)
			before := slices.Clone(x.b.cells)
			x.wantStep(a, x.asks())
			x.wantDone(a, api.HowNotified)
			x.wantSame(before, nil)
			x.wantView(1, depth, 2, 3)
		}
	}
}

// It sleeps first, even if it is the owner already: then there is a permit for it.
func TestRestSleepsFirst(t *testing.T) {
	x := newScene(t).owned(1, 2)
	x.b.cells[x.Safe(1)] = api.SafeRunning
	x.Permits.Give(1)
	before := slices.Clone(x.b.cells)
	a := x.rest(1, false)
	x.wantStep(a, x.ends(1))
	x.wantParked(a, 1, false)
	x.wantNoOperation(a, api.PickStep)
	x.wantSteps(a, x.begins(1), x.asks())
	x.wantDone(a, api.HowNotified)
	x.wantSame(before, nil)
}

// P15.1: leaving

// leaves lets a thread that was woken leave the wait queue, in the order of the chapter, each act at its step.
func (x *scene) leaves(a *task.Task, u int, l waits, how int) {
	x.Helper()
	x.wantSteps(a, x.asks(), x.takes(u), x.waits(u), x.flag(u))
	l.wantView(x, -1)
	if how == api.HowInterrupted {
		x.wantStep(a, store(x.Flag(u), 0), x.act(u, api.ActClear, 0))
		l.wantView(x, -1)
	}
	x.wantQueueSteps(a, x.Wait(x.n), x.enters(u), x.act(u, api.ActLeave, how))
	l.wantView(x, u)
	x.wantQueues(without(l.wait, u), l.entry)
	x.wantStep(a, x.asks())
}

// Without an owner, the thread becomes the owner at once, as deep as it was; the others go on to wait, in order.
func TestLeavingWithoutAnOwner(t *testing.T) {
	for _, w := range wakings() {
		for _, wait := range [][]int{{1}, {1, 4}, {4, 1}, {3, 1, 0}, {0, 3, 1}, {1, 0, 3, 4}} {
			for _, depth := range []int{1, 2, 300, api.MaxDepth} {
				if w.how() == none {
					continue
				}
				l := waits{wait, nil, -1, depth}
				x := newWaits(t, l, 1, w.flag)
				before := slices.Clone(x.b.cells)
				a := x.rest(1, w.timed)
				x.sleepsTill(a, 1, w)
				x.leaves(a, 1, l, w.how())
				x.wantStep(a, load(x.Saved(1)))
				l.wantView(x, 1)
				x.wantStep(a, x.becomes(1, depth), x.act(1, api.ActGrant, 0))
				x.wantView(1, depth, without(wait, 1)...)
				x.wantSteps(a, store(x.State(1), api.StateIdle), x.drops(1))
				x.wantDone(a, w.how())
				x.wantAsBefore(before)
			}
		}
	}
}

// wantAsBefore tests that but for the queues, and what the thread 1 is about, the cells contain what they did.
func (x *scene) wantAsBefore(before []uint64) {
	x.Helper()
	but := map[int]uint64{}
	set := func(i int) { but[i] = x.b.cells[i] }
	for _, at := range []int{x.Wait(x.n), x.Entry(x.n)} {
		set(at)
		set(at + 1)
	}
	for u := range x.Threads {
		set(x.Next(u))
	}
	set(x.Hold(x.n))
	set(x.State(1))
	but[x.Flag(1)] = 0
	x.wantSame(before, but)
}

// With an owner, the thread becomes the last one of those that wait to enter, and waits, without the latch, until it is the owner; no time and no interruption matters any more.
func TestLeavingWithAnOwner(t *testing.T) {
	for _, w := range wakings() {
		for _, l := range []waits{
			{[]int{1}, nil, 0, 1},
			{[]int{1, 3}, nil, 2, 2},
			{[]int{3, 1}, []int{4}, 0, 300},
			{[]int{3, 1, 2}, []int{4}, 0, api.MaxDepth - 1},
			{[]int{1}, []int{4, 3, 2}, 0, 5},
		} {
			if w.how() == none {
				continue
			}
			x := newWaits(t, l, 1, w.flag)
			before := slices.Clone(x.b.cells)
			a := x.rest(1, w.timed)
			x.sleepsTill(a, 1, w)
			x.leaves(a, 1, l, w.how())
			x.wantQueueSteps(a, x.Entry(x.n), x.drops(1))
			x.wantQueues(without(l.wait, 1), append(slices.Clone(l.entry), 1))
			if v := x.b.cells[x.State(1)]; v != api.StateOf(api.StateEntering, x.n) {
				t.Fatalf("State is %d", v)
			}
			x.wantAsBefore(before)
			x.wantOwnedInTheEnd(a, l, w.how())
		}
	}
}

// wantOwnedInTheEnd tests that the thread 1, which has left, sleeps until it is the owner, by what the others do.
func (x *scene) wantOwnedInTheEnd(a *task.Task, l waits, how int) {
	x.Helper()
	for _, kind := range []int{api.PickSpurious, api.PickStep} {
		x.wantStep(a, x.asks())
		x.sleeps(a, 1, false)
		x.b.cells[x.Flag(1)] = 1
		x.wakes(a, 1, kind)
	}
	l.wantView(x, 1)
	x.wantStep(a, x.asks())
	x.sleeps(a, 1, false)
	for _, u := range append([]int{l.owner}, l.entry...) {
		x.exitsAll(u)
	}
	x.wantView(1, l.depth, without(l.wait, 1)...)
	x.wantQueues(without(l.wait, 1), nil)
	if !x.Permits.Has(1) {
		x.Fatal("it has no permit")
	}
	log := len(x.Events())
	x.wantNoOperation(a, api.PickStep)
	x.wantSteps(a, x.begins(1), x.asks())
	x.wantDone(a, how)
	if l := x.Events(); l[log-1] != x.act(1, api.ActGrant, 0) {
		x.Fatalf("the log is %v", l)
	}
	if x.b.cells[x.Flag(1)] != 1 {
		x.Fatal("the flag is down")
	}
}

// exitsAll lets the owner leave the monitor altogether: its depth falls to 1 at once.
func (x *scene) exitsAll(u int) {
	x.Helper()
	x.owned(u, 1)
	if v := task.Run(fat.Exit(x.Ground, u, x.o, x.n, x.gen)); v != 0 {
		x.Fatalf("Exit of %d: %d", u, v)
	}
}

// P15.1: sleeping again

// goesOnSleeping lets a thread that was woken find no reason, and go to sleep again: all is as it was.
func (x *scene) goesOnSleeping(a *task.Task, u int, w waking, examined ...operation) {
	x.Helper()
	before, log := slices.Clone(x.b.cells), len(x.Events())
	x.wantSteps(a, x.asks(), x.takes(u))
	x.wantSteps(a, examined...)
	x.wantStep(a, x.drops(u))
	x.wantSame(before, nil)
	if len(x.Events()) != log {
		x.Fatalf("the log is %v", x.Events())
	}
	x.sleeps(a, u, w.timed)
}

// A permit alone is no reason, with an owner or without one; after any number of them, the thread sleeps again, and still ends by what comes then.
func TestPermitsThatAreLeftOver(t *testing.T) {
	for _, owner := range []int{-1, 0} {
		for _, timed := range []bool{false, true} {
			l := waits{[]int{3, 1, 2}, []int{4}, owner, 2}
			x := newWaits(t, l, 1, 0)
			a := x.rest(1, timed)
			x.sleeps(a, 1, timed)
			for range 4 {
				x.wakes(a, 1, api.PickStep)
				x.goesOnSleeping(a, 1, waking{timed: timed}, x.waits(1), x.flag(1))
			}
			l.wantView(x, -1)
			x.wakes(a, 1, api.PickSpurious)
			x.leaves(a, 1, l, api.HowSpurious)
		}
	}
}

// A thread that does not wait at this monitor any more does not leave, whatever wakes it, and its flag stays: it sleeps until it is the owner.
func TestThreadsThatDoNotWaitAnyMore(t *testing.T) {
	for _, w := range wakings() {
		for _, state := range []uint64{
			api.StateOf(api.StateNotified, here.n), api.StateOf(api.StateEntering, here.n), api.StateOf(api.StateIdle, 0),
			api.StateOf(api.StateIdle, here.n), api.StateOf(api.StateWaiting, 0), api.StateOf(api.StateWaiting, here.n+1), 1<<63 + api.StateOf(api.StateWaiting, here.n),
		} {
			x := newScene(t).owned(0, 2).waiting(3, 2).entering(3, 1)
			x.b.cells[x.State(1)] = state
			x.b.cells[x.Flag(1)] = w.flag
			a := x.rest(1, w.timed)
			x.sleeps(a, 1, w.timed)
			for range 2 {
				x.wakes(a, 1, w.kind)
				x.goesOnSleeping(a, 1, w, x.waits(1))
			}
			x.wantQueues([]int{2}, []int{1})
			x.exitsAll(0)
			x.wantView(1, 3, 2)
			x.wantNoOperation(a, api.PickStep)
			x.wantSteps(a, x.begins(1), x.asks())
			x.wantDone(a, api.HowNotified)
			if x.b.cells[x.Flag(1)] != w.flag {
				t.Fatalf("the flag is %d, was %d", x.b.cells[x.Flag(1)], w.flag)
			}
		}
	}
}

// P15.1: what is examined under the latch

// As long as another thread holds the latch, the thread tries again; what counts is how things are when it has the latch.
func TestRestWaitsForTheLatch(t *testing.T) {
	l := waits{[]int{1, 3}, nil, -1, 2}
	x := newWaits(t, l, 1, 0)
	a := x.rest(1, true)
	x.sleepsTill(a, 1, waking{api.PickTime, true, 0})
	x.wantStep(a, x.asks())
	x.b.cells[x.Latch(x.n)] = 3
	for range 4 {
		x.wantStep(a, x.takes(1))
	}
	x.b.cells[x.Flag(1)] = 1
	x.b.cells[x.Latch(x.n)] = 0
	x.wantSteps(a, x.takes(1), x.waits(1), x.flag(1))
	x.wantStep(a, store(x.Flag(1), 0), x.act(1, api.ActClear, 0))
	x.wantQueueSteps(a, x.Wait(x.n), x.enters(1), x.act(1, api.ActLeave, api.HowInterrupted))
}

// An interruption that comes when the flag was examined is for later.
func TestInterruptedTooLate(t *testing.T) {
	for _, kind := range []int{api.PickTime, api.PickSpurious} {
		l := waits{[]int{1, 3}, nil, -1, 2}
		x := newWaits(t, l, 1, 0)
		a := x.rest(1, true)
		w := waking{kind, true, 0}
		x.sleepsTill(a, 1, w)
		x.wantSteps(a, x.asks(), x.takes(1), x.waits(1), x.flag(1))
		task.Run(x.interrupt(3, 1))
		x.wantQueueSteps(a, x.Wait(x.n), x.enters(1), x.act(1, api.ActLeave, w.how()))
		if v := task.Run(a); v != w.how() || x.b.cells[x.Flag(1)] != 1 || !x.Permits.Has(1) {
			t.Fatalf("the value is %d, the flag %d, Has = %v", v, x.b.cells[x.Flag(1)], x.Permits.Has(1))
		}
	}
}

// An interruption while a thread finds no reason is not lost: its permit ends the next sleep. The flag without the permit ends none.
func TestInterruptedMeanwhile(t *testing.T) {
	l := waits{[]int{1, 3}, nil, -1, 2}
	x := newWaits(t, l, 1, 0)
	a, b := x.rest(1, false), x.interrupt(3, 1)
	x.sleepsTill(a, 1, waking{})
	x.wantSteps(a, x.asks(), x.takes(1), x.waits(1), x.flag(1))
	x.wantStep(b, store(x.Flag(1), 1), x.act(3, api.ActInterrupt, 1))
	x.wantStep(a, x.drops(1))
	x.sleeps(a, 1, false)
	x.wantNoOperation(b, api.PickStep)
	x.wantNoOperation(a, api.PickStep)
	x.wantStep(a, x.begins(1))
	x.leaves(a, 1, l, api.HowInterrupted)
}

// A thread that becomes the owner when it was found not to be does not leave, and finds out in its next sleep.
func TestGrantedMeanwhile(t *testing.T) {
	for _, w := range wakings() {
		x := newScene(t).owned(0, 1).entering(4, 1)
		x.b.cells[x.State(1)] = api.StateOf(api.StateNotified, x.n)
		x.b.cells[x.Flag(1)] = w.flag
		a := x.rest(1, w.timed)
		x.sleepsTill(a, 1, w)
		x.wantStep(a, x.asks())
		x.exitsAll(0)
		x.wantView(1, 4)
		x.wantSteps(a, x.takes(1), x.waits(1), x.drops(1))
		x.sleeps(a, 1, w.timed)
		x.wantNoOperation(a, api.PickStep)
		x.wantSteps(a, x.begins(1), x.asks())
		x.wantDone(a, api.HowNotified)
	}
}

// A thread that somebody holds when it wakes does not go on till it is let go.
func TestRestOfAThreadThatIsHeld(t *testing.T) {
	l := waits{[]int{1}, nil, -1, 2}
	x := newWaits(t, l, 1, 0)
	a := x.rest(1, true)
	x.sleeps(a, 1, true)
	x.b.cells[x.Safe(1)] = api.SafeHeld
	x.wantNoOperation(a, api.PickTime)
	x.wantSteps(a, x.begins(1), x.begins(1))
	x.b.cells[x.Safe(1)] = api.SafeOut
	x.wantStep(a, x.begins(1))
	x.leaves(a, 1, l, api.HowTimed)
}

// The monitor's own thread, object and queues count, whichever they are.
func TestRestAtAnyMonitor(t *testing.T) {
	for o := range few.Objects {
		for n := range few.Monitors {
			for u := range few.Threads {
				x := newScene(t)
				x.spot = spot{o, n, 3}
				fatten(x.Ground, x.spot)
				x.b.cells[x.Map.Word((o+1)%few.Objects)] = 1
				x.b.cells[x.Map.Word((o+2)%few.Objects)] = 1
				l := waits{[]int{(u + 1) % few.Threads, u}, nil, -1, 6}
				x.waiting(6, l.wait...)
				a := wake.Rest(x.Ground, u, o, n, true)
				x.sleepsTill(a, u, waking{api.PickTime, true, 0})
				x.leaves(a, u, l, api.HowTimed)
				if v := task.Run(a); v != api.HowTimed {
					t.Fatalf("the value is %d", v)
				}
				x.wantView(u, 6, l.wait[0])
			}
		}
	}
}

// By Run, a timed wait is over when there is no permit, and any wait that somebody else ends.
func TestRunOfRest(t *testing.T) {
	x := newScene(t).waiting(2, 1, 3)
	if v := task.Run(x.rest(1, true)); v != api.HowTimed {
		t.Fatalf("the value is %d", v)
	}
	x.wantView(1, 2, 3)
	task.Run(x.interrupt(1, 3))
	x.owned(-1, 0)
	if v := task.Run(x.rest(3, true)); v != api.HowInterrupted {
		t.Fatalf("the value is %d", v)
	}
	x.wantView(3, 2)
	want := []api.Event{
		x.act(1, api.ActLeave, api.HowTimed), x.act(1, api.ActGrant, 0), x.act(1, api.ActInterrupt, 3),
		x.act(3, api.ActClear, 0), x.act(3, api.ActLeave, api.HowInterrupted), x.act(3, api.ActGrant, 0),
	}
	if got := x.Events(); !slices.Equal(got, want) {
		t.Fatalf("the log is %v, want %v", got, want)
	}
}

// With goroutines, a thread may see that its flag is up as soon as that is stored, and clear it; so the interruption is logged by then.
func TestInterruptionsAreLoggedInTime(t *testing.T) {
	x := newScene(t)
	seen := 0
	x.b.watch = func(i int, v uint64) {
		if i == x.Flag(3) && v == 1 {
			seen++
			if got := x.Events(); !slices.Equal(got, []api.Event{x.act(2, api.ActInterrupt, 3)}) {
				t.Errorf("the log is %v when the flag goes up", got)
			}
		}
	}
	task.Run(x.interrupt(2, 3))
	if seen != 1 {
		t.Errorf("the flag goes up %d times", seen)
	}
}
