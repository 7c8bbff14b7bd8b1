package await_test

import (
	"math"
	"slices"
	"testing"

	"doorkeeper/api"
	"doorkeeper/task"
)

// P16.1: Wait

// crowd is who waits at the scene's monitor, and who waits to enter it, each in order, and how deep the latter were: 0 if they enter for the first time.
type crowd struct {
	wait, entry []int
	saved       int
}

// crowds are some, without the thread 1.
var crowds = []crowd{
	{},
	{wait: []int{3}},
	{wait: []int{4, 2}},
	{entry: []int{3}},
	{entry: []int{3}, saved: 1},
	{entry: []int{2, 4}, saved: 7},
	{wait: []int{0}, entry: []int{4, 2}},
	{wait: []int{4, 0}, entry: []int{3, 2}, saved: api.MaxDepth},
}

// newCrowd has such a crowd, and the owner u, so deep, which runs, and has been in it before.
func newCrowd(t *testing.T, l crowd, u, depth int) *scene {
	x := newScene(t).waiting(2, l.wait...).entering(l.saved, l.entry...).owned(u, depth)
	x.b.cells[x.Safe(1)] = api.SafeRunning
	x.b.cells[x.Saved(1)] = 99
	return x
}

// A thread that is not the owner is refused, which changes nothing, whether it was interrupted or not.
func TestWaitOfAnother(t *testing.T) {
	for _, timed := range []bool{false, true} {
		for _, owner := range []int{-1, 0, 2} {
			for _, depth := range []int{0, 1, api.MaxDepth} {
				for _, flag := range []uint64{0, 1} {
					x := newCrowd(t, crowds[len(crowds)-1], owner, depth)
					x.b.cells[x.Flag(1)] = flag
					x.b.cells[x.Hold(0)] = api.HoldOf(1, 1)
					before := slices.Clone(x.b.cells)
					a := x.wait(1, timed)
					x.wantSteps(a, x.takes(1), x.looks())
					x.wantStep(a, x.asks(), x.act(1, api.ActRefuse, int(api.ErrOwner)))
					x.wantStep(a, x.drops(1))
					x.wantDone(a, refused)
					x.wantSame(before, nil)
				}
			}
		}
	}
}

// With another generation nothing is done, also by the owner.
func TestStaleCalls(t *testing.T) {
	for _, owner := range []int{-1, 1, 2} {
		for _, gen := range []int{0, 4, 6, -1, math.MaxInt} {
			for _, is := range []bool{false, true} {
				x := newCrowd(t, crowds[len(crowds)-1], owner, 3)
				x.gen = gen
				x.b.cells[x.Flag(1)] = 1
				before := slices.Clone(x.b.cells)
				for _, a := range []*task.Task{x.wait(1, is), x.notify(1, is)} {
					x.wantSteps(a, x.takes(1), x.looks(), x.drops(1))
					x.wantDone(a, stale)
					x.wantSame(before, nil)
				}
				if l := x.Events(); len(l) > 0 {
					t.Fatalf("the log is %v", l)
				}
			}
		}
	}
}

// An owner that was interrupted does not wait: its flag falls, and it is the owner still.
func TestWaitOfAnInterruptedOwner(t *testing.T) {
	for _, l := range crowds {
		for _, timed := range []bool{false, true} {
			for _, depth := range []int{1, 2, api.MaxDepth} {
				for _, flag := range []uint64{1, 2, 1 << 40, math.MaxUint64} {
					x := newCrowd(t, l, 1, depth)
					x.b.cells[x.Flag(1)] = flag
					before := slices.Clone(x.b.cells)
					a := x.wait(1, timed)
					x.wantSteps(a, x.takes(1), x.looks(), x.asks(), x.flag(1))
					x.wantStep(a, store(x.Flag(1), 0), x.act(1, api.ActClear, 0))
					x.wantView(1, depth, l.wait...)
					x.wantStep(a, x.drops(1))
					x.wantDone(a, api.HowInterrupted)
					x.wantSame(before, map[int]uint64{x.Flag(1): 0})
				}
			}
		}
	}
}

// An owner of any depth waits behind those that wait already; it has released the monitor at the step at which the first one that waits to enter becomes the owner, or nobody; then that one gets a permit, without the latch, and the thread sleeps.
func TestWait(t *testing.T) {
	for _, l := range crowds {
		for _, timed := range []bool{false, true} {
			for _, depth := range []int{1, 2, 300, api.MaxDepth} {
				x := newCrowd(t, l, 1, depth)
				a := x.wait(1, timed)
				x.releases(a, l, depth)
				x.wantAt(l)
				x.wantStep(a, x.drops(1))
				if len(l.entry) > 0 {
					x.wantPermits()
					x.wantNoOperation(a, api.PickStep)
					x.wantPermits(l.entry[0])
				}
				x.wantStep(a, x.ends(1))
				x.wantParked(a, 1, timed)
			}
		}
	}
}

// releases takes the steps of the thread 1, the owner, so deep, up to the one that releases the monitor.
func (x *scene) releases(a *task.Task, l crowd, depth int) {
	x.Helper()
	x.wantSteps(a, x.takes(1), x.looks(), x.asks(), x.flag(1), x.saves(1, depth), x.states(1, api.StateWaiting))
	x.wantView(1, depth, l.wait...)
	x.wantQueueSteps(a, x.Wait(x.n), load(x.Entry(x.n)))
	x.wantView(1, depth, l.wait...)
	released := x.act(1, api.ActRelease, 0)
	if len(l.entry) == 0 {
		x.wantStep(a, x.becomes(-1, 0), released)
		return
	}
	u, act := l.entry[0], api.ActEnter
	if l.saved > 0 {
		act = api.ActGrant
	}
	x.wantQueueSteps(a, x.Entry(x.n), store(x.State(u), api.StateOf(api.StateIdle, 0)))
	x.wantStep(a, load(x.Saved(u)))
	x.wantView(1, depth, l.wait...)
	x.wantStep(a, x.becomes(u, max(1, l.saved)), released, x.act(u, act, 0))
}

// wantAt tests what the thread 1 has left when it has released the monitor.
func (x *scene) wantAt(l crowd) {
	x.Helper()
	wait := append(slices.Clone(l.wait), 1)
	if len(l.entry) == 0 {
		x.wantView(-1, 0, wait...)
		x.wantQueues(wait, nil)
		return
	}
	x.wantView(l.entry[0], max(1, l.saved), wait...)
	x.wantQueues(wait, l.entry[1:])
}

// wantPermits tests that these threads have permits, and nobody else.
func (x *scene) wantPermits(threads ...int) {
	x.Helper()
	for u := range x.Threads {
		if x.Permits.Has(u) != slices.Contains(threads, u) {
			x.Fatalf("Has(%d) = %v", u, x.Permits.Has(u))
		}
	}
}

// sleeping returns the wait of the thread 1, which has released the monitor, and sleeps.
func (x *scene) sleeping(timed bool) *task.Task {
	x.Helper()
	a := x.wait(1, timed)
	for n := 0; !a.Parked(); n++ {
		if n == 40 || !a.Step(api.PickStep) {
			x.Fatalf("it does not sleep after %d steps", n)
		}
	}
	return a
}

// The wait ends as Rest does, with how, and the thread is as deep as it was.
func TestHowWaitsEnd(t *testing.T) {
	for _, depth := range []int{1, 2, api.MaxDepth} {
		for _, timed := range []bool{false, true} {
			for how, kind := range map[int]int{api.HowTimed: api.PickTime, api.HowSpurious: api.PickSpurious, api.HowInterrupted: api.PickStep, api.HowNotified: api.PickStep} {
				if how == api.HowTimed && !timed {
					continue
				}
				x := newCrowd(t, crowd{wait: []int{3}}, 1, depth)
				a := x.sleeping(timed)
				switch how {
				case api.HowInterrupted:
					task.Run(x.interrupt(0, 1))
				case api.HowNotified:
					x.owned(2, 1)
					task.Run(x.notify(2, true))
					for _, u := range []int{2, 3, 3} {
						task.Run(x.exit(u))
					}
				}
				if !a.Step(kind) {
					t.Fatalf("it sleeps, timed = %v, and a pick %d does not wake it", timed, kind)
				}
				if v := task.Run(a); v != how {
					t.Fatalf("the value is %d, want %d", v, how)
				}
				if v := x.View(x.o); v.Owner != 1 || v.Depth != depth {
					t.Fatalf("View = %v, want the owner 1, %d deep", v, depth)
				}
			}
		}
	}
}

// An interruption that comes when the flag was examined is not lost: its permit ends the sleep at once.
func TestInterruptedOnTheWay(t *testing.T) {
	for ahead := 4; ahead < 14; ahead++ {
		x := newCrowd(t, crowd{wait: []int{3}}, 1, 2)
		a := x.wait(1, false)
		for range ahead {
			a.Step(api.PickStep)
		}
		task.Run(x.interrupt(0, 1))
		for n := 0; n < 50 && a.Step(api.PickStep); n++ {
		}
		x.wantDone(a, api.HowInterrupted)
		x.wantView(1, 2, 3)
		if x.b.cells[x.Flag(1)] != 0 {
			t.Fatalf("the flag is up, %d steps ahead", ahead)
		}
	}
}

// As long as another thread holds the latch, the owner tries again, and has not released the monitor.
func TestCallsWaitForTheLatch(t *testing.T) {
	for _, make := range []func(x *scene) *task.Task{
		func(x *scene) *task.Task { return x.wait(1, false) },
		func(x *scene) *task.Task { return x.notify(1, true) },
	} {
		x := newCrowd(t, crowd{wait: []int{3}}, 1, 2)
		x.b.cells[x.Latch(x.n)] = 3
		before := slices.Clone(x.b.cells)
		a := make(x)
		for range 4 {
			x.wantStep(a, x.takes(1))
		}
		x.wantSame(before, nil)
		x.b.cells[x.Latch(x.n)] = 0
		x.wantSteps(a, x.takes(1), x.looks(), x.asks())
	}
}

// The thread's own cells, and those of its monitor and its object count, whichever they are.
func TestWaitAndNotifyAnywhere(t *testing.T) {
	for o := range few.Objects {
		for n := range few.Monitors {
			for u := range few.Threads {
				x := newScene(t)
				x.b.cells[x.Map.Word(here.o)] = 1
				x.spot = spot{o, n, 3}
				fatten(x.Ground, x.spot)
				v := (u + 1) % few.Threads
				x.owned(u, 4)
				a := x.wait(u, false)
				for a.Step(api.PickStep) {
				}
				x.wantParked(a, u, false)
				x.wantView(-1, 0, u)
				x.owned(v, 1)
				if r := task.Run(x.notify(v, false)); r != ok {
					t.Fatalf("Notify is %d", r)
				}
				x.wantView(v, 1)
				x.wantQueues(nil, []int{u})
				if r := task.Run(x.exit(v)); r != ok {
					t.Fatalf("Exit is %d", r)
				}
				if r := task.Run(a); r != api.HowNotified {
					t.Fatalf("Wait is %d", r)
				}
				x.wantView(u, 4)
			}
		}
	}
}

// Wrong numbers

// notThere are numbers of nothing, for a map of n.
func notThere(n int) []int {
	return []int{-1, -2, n, n + 1, 1 << 20, math.MaxInt, math.MinInt}
}

// With a thread, an object or a monitor that does not exist, nothing is done, at once.
func TestWrongNumbers(t *testing.T) {
	try := func(u int, at spot) {
		t.Helper()
		for _, is := range []bool{false, true} {
			x := newCrowd(t, crowds[len(crowds)-1], 1, 2)
			x.spot = at
			before := slices.Clone(x.b.cells)
			x.wantDone(x.wait(u, is), argument)
			x.wantDone(x.notify(u, is), argument)
			x.wantSame(before, nil)
			if l := x.Events(); len(l) > 0 {
				t.Fatalf("the log is %v", l)
			}
		}
	}
	for _, u := range notThere(few.Threads) {
		try(u, here)
	}
	for _, o := range notThere(few.Objects) {
		try(1, spot{o, here.n, here.gen})
	}
	for _, n := range notThere(few.Monitors) {
		try(1, spot{here.o, n, here.gen})
	}
}

// With goroutines, a thread that becomes the owner goes on as soon as it sees that; so the acts by which it became so are logged by then, and likewise that a flag has fallen.
func TestActsAreLoggedInTime(t *testing.T) {
	x := newCrowd(t, crowd{entry: []int{3}}, 1, 2)
	seen := 0
	x.b.watch = func(i int, v uint64) {
		var want []api.Event
		switch {
		case i == x.Hold(x.n) && v == api.HoldOf(3, 1):
			want = []api.Event{x.act(1, api.ActRelease, 0), x.act(3, api.ActEnter, 0)}
		case i == x.State(1) && v == api.StateOf(api.StateNotified, x.n):
			want = []api.Event{x.act(3, api.ActNotify, 1)}
		case i == x.Flag(3) && v == 0:
			want = []api.Event{x.act(3, api.ActClear, 0)}
		default:
			return
		}
		seen++
		if l := x.Events(); !slices.Equal(l[max(0, len(l)-len(want)):], want) {
			t.Errorf("the log is %v when the cell %d becomes %d", l, i, v)
		}
	}
	x.sleeping(false)
	task.Run(x.notify(3, false))
	x.b.cells[x.Flag(3)] = 1
	task.Run(x.wait(3, false))
	if seen != 3 {
		t.Errorf("%d of 3 stores", seen)
	}
}
