package fat_test

import (
	"slices"
	"testing"

	"doorkeeper/api"
	"doorkeeper/fat"
	"doorkeeper/queue"
	"doorkeeper/task"
)

// wantQueue tests which threads the scene's entry queue contains.
func (x *scene) wantQueue(want ...int) {
	x.Helper()
	if got := queue.Look(x.Cells, x.Map, x.Entry(x.n)); !slices.Equal(got, want) {
		x.Fatalf("the entry queue is %v, want %v", got, want)
	}
}

// P14.2: Enter

// A thread becomes the owner of a monitor without an owner.
func TestEnterWithoutAnOwner(t *testing.T) {
	for u := range few.Threads {
		x := newScene(t)
		before := slices.Clone(x.b.cells)
		a := x.enter(u)
		x.wantSteps(a, x.takes(u), x.looks(), x.asks())
		x.wantView(-1, 0)
		x.wantStep(a, x.becomes(u, 1), x.act(u, api.ActEnter, 0))
		x.wantView(u, 1)
		x.wantStep(a, x.drops(u))
		x.wantDone(a, ok)
		x.wantSame(before, map[int]uint64{x.Hold(x.n): api.HoldOf(u, 1)})
	}
}

// A depth without an owner is none.
func TestEnterOfADepthWithoutAnOwner(t *testing.T) {
	x := newScene(t).owned(-1, 7)
	a := x.enter(0)
	x.wantSteps(a, x.takes(0), x.looks(), x.asks())
	x.wantStep(a, x.becomes(0, 1), x.act(0, api.ActEnter, 0))
	x.wantStep(a, x.drops(0))
	x.wantDone(a, ok)
}

// The owner gets deeper, as far as may be.
func TestEnterOfTheOwner(t *testing.T) {
	for u := range few.Threads {
		for _, depth := range []int{1, 2, 7, api.MaxThin, api.MaxThin + 1, 1 << 16, api.MaxDepth - 2, api.MaxDepth - 1} {
			x := newScene(t).owned(u, depth)
			before := slices.Clone(x.b.cells)
			a := x.enter(u)
			x.wantSteps(a, x.takes(u), x.looks(), x.asks())
			x.wantView(u, depth)
			x.wantStep(a, x.becomes(u, depth+1), x.act(u, api.ActEnter, 0))
			x.wantView(u, depth+1)
			x.wantStep(a, x.drops(u))
			x.wantDone(a, ok)
			x.wantSame(before, map[int]uint64{x.Hold(x.n): api.HoldOf(u, depth+1)})
		}
	}
}

// P14.2, P14.7: at MaxDepth it is refused, which changes nothing.
func TestEnterTooDeep(t *testing.T) {
	for u := range few.Threads {
		x := newScene(t).owned(u, api.MaxDepth)
		before := slices.Clone(x.b.cells)
		for range 3 {
			a := x.enter(u)
			x.wantSteps(a, x.takes(u), x.looks())
			x.wantStep(a, x.asks(), x.act(u, api.ActRefuse, int(api.ErrDepth)))
			x.wantStep(a, x.drops(u))
			x.wantDone(a, tooDeep)
			x.wantSame(before, nil)
			x.wantView(u, api.MaxDepth)
		}
	}
}

// A thread that finds another owner comes into the queue, behind those that are there, and then waits without the latch.
func TestEnterOfAnother(t *testing.T) {
	for _, waiting := range [][]int{nil, {0}, {2, 0}} {
		x := newScene(t).owned(3, 2).entering(nil, waiting...)
		x.b.cells[x.Saved(1)] = 9
		x.b.cells[x.Safe(1)] = api.SafeRunning
		a := x.enter(1)
		x.wantSteps(a, x.takes(1), x.looks(), x.asks(), store(x.Saved(1), 0), store(x.State(1), api.StateOf(api.StateEntering, x.n)))
		x.wantQueue(waiting...)
		for n := 0; len(queue.Look(x.Cells, x.Map, x.Entry(x.n))) == len(waiting) || x.b.cells[x.Entry(x.n)+1] != 2; n++ {
			if n == 5 || !a.Step(api.PickStep) {
				t.Fatalf("%d steps, and it is not in the queue", n)
			}
		}
		x.wantQueue(append(slices.Clone(waiting), 1)...)
		x.wantSteps(a, x.drops(1), x.asks(), store(x.Safe(1), api.SafeOut))
		x.wantParked(a, 1)
		if v := x.b.cells[x.State(1)]; v != api.StateOf(api.StateEntering, x.n) || x.b.cells[x.Saved(1)] != 0 {
			t.Fatalf("State is %d, Saved is %d", v, x.b.cells[x.Saved(1)])
		}
		x.wantView(3, 2)
		if l := x.Events(); len(l) > 0 {
			t.Fatalf("the log is %v", l)
		}
		x.wantNoOperation(a, api.PickSpurious)
		x.wantStep(a, swap(x.Safe(1), api.SafeOut, api.SafeRunning))
		x.owned(1, 1)
		x.wantStep(a, x.asks())
		x.wantDone(a, ok)
	}
}

// P14.2, P14.3, P14.7: with another generation, nothing is done, whoever is the owner.
func TestStaleCalls(t *testing.T) {
	for _, who := range []int{-1, 1, 2} {
		for _, gen := range []int{0, 4, 6, -1} {
			x := newScene(t).owned(who, 2).entering(nil, 3)
			x.gen = gen
			before := slices.Clone(x.b.cells)
			for _, a := range []*task.Task{x.enter(1), x.exit(1), x.holds(1)} {
				x.wantSteps(a, x.takes(1), x.looks(), x.drops(1))
				x.wantDone(a, stale)
				x.wantSame(before, nil)
			}
		}
	}
}

// P14.3: Exit

// P14.3, P14.7: a thread that is not the owner is refused, which changes nothing.
func TestExitOfAnother(t *testing.T) {
	for _, who := range []int{-1, 0, 3} {
		for _, depth := range []int{0, 1, 2, api.MaxDepth} {
			x := newScene(t).owned(who, depth).entering(nil, 2)
			x.b.cells[x.Hold(0)] = api.HoldOf(1, 1)
			before := slices.Clone(x.b.cells)
			a := x.exit(1)
			x.wantSteps(a, x.takes(1), x.looks())
			x.wantStep(a, x.asks(), x.act(1, api.ActRefuse, int(api.ErrOwner)))
			x.wantStep(a, x.drops(1))
			x.wantDone(a, owner)
			x.wantSame(before, nil)
		}
	}
}

// An owner that is in it more than once is in it once less, and nobody else is told.
func TestExitOfADeepOwner(t *testing.T) {
	for u := range 3 {
		for _, depth := range []int{2, 3, 256, api.MaxDepth - 1, api.MaxDepth} {
			x := newScene(t).owned(u, depth).entering(nil, 3)
			before := slices.Clone(x.b.cells)
			a := x.exit(u)
			x.wantSteps(a, x.takes(u), x.looks(), x.asks())
			x.wantView(u, depth)
			x.wantStep(a, x.becomes(u, depth-1), x.act(u, api.ActExit, 0))
			x.wantView(u, depth-1)
			x.wantStep(a, x.drops(u))
			x.wantDone(a, ok)
			x.wantSame(before, map[int]uint64{x.Hold(x.n): api.HoldOf(u, depth-1)})
		}
	}
}

// An owner that is in it once leaves it without an owner, if nobody waits to enter.
func TestExitWithoutAnother(t *testing.T) {
	for u := range few.Threads {
		x := newScene(t).owned(u, 1)
		before := slices.Clone(x.b.cells)
		a := x.exit(u)
		x.wantSteps(a, x.takes(u), x.looks(), x.asks(), load(x.Entry(x.n)))
		x.wantView(u, 1)
		x.wantStep(a, x.becomes(-1, 0), x.act(u, api.ActExit, 0))
		x.wantView(-1, 0)
		x.wantStep(a, x.drops(u))
		x.wantDone(a, ok)
		x.wantSame(before, map[int]uint64{x.Hold(x.n): 0})
	}
}

// Otherwise the first one that waits becomes the owner, and gets a permit in a step of its own, after the latch was dropped.
func TestExitToAnother(t *testing.T) {
	x := newScene(t).owned(1, 1).entering(map[int]int{2: 4}, 3, 2)
	a := x.exit(1)
	x.wantSteps(a, x.takes(1), x.looks(), x.asks())
	x.stepsTill(a, store(x.State(3), api.StateIdle))
	x.wantStep(a, load(x.Saved(3)))
	x.wantView(1, 1)
	x.wantStep(a, x.becomes(3, 1), x.act(1, api.ActExit, 0), x.act(3, api.ActEnter, 0))
	x.wantView(3, 1)
	x.wantQueue(2)
	x.wantStep(a, x.drops(1))
	if x.Permits.Has(3) || a.Done() {
		t.Fatal("a permit ahead of the step that gives it")
	}
	x.wantNoOperation(a, api.PickStep)
	x.wantDone(a, ok)
	for u := range few.Threads {
		if x.Permits.Has(u) != (u == 3) {
			t.Fatalf("Has(%d) = %v", u, x.Permits.Has(u))
		}
	}
	a = x.exit(3)
	for !a.Done() {
		a.Step(api.PickStep)
	}
	x.wantDone(a, ok)
	x.wantView(2, 4)
	x.wantQueue()
	if l := x.Events(); len(l) != 4 || l[2] != x.act(3, api.ActExit, 0) || l[3] != x.act(2, api.ActGrant, 0) {
		t.Fatalf("the log is %v", l)
	}
}

// stepsTill takes steps that log nothing, the last one of which is this operation.
func (x *scene) stepsTill(a *task.Task, last operation) {
	x.Helper()
	log := len(x.Events())
	for range 10 {
		x.b.done = nil
		if !a.Step(api.PickStep) || len(x.b.done) != 1 || len(x.Events()) != log {
			x.Fatalf("the step does %v, or logs", x.b.done)
		}
		if x.b.done[0] == last {
			return
		}
	}
	x.Fatalf("no step that does %v", last)
}

// P14.3: Holds tells whether the thread is the owner, and changes nothing.
func TestHolds(t *testing.T) {
	for u := range few.Threads {
		for who := -1; who < few.Threads; who++ {
			for _, depth := range []int{1, 2, api.MaxDepth} {
				x := newScene(t).owned(who, depth).entering(nil, (who+2)%few.Threads)
				before := slices.Clone(x.b.cells)
				is := 0
				if u == who {
					is = 1
				}
				a := x.holds(u)
				x.wantSteps(a, x.takes(u), x.looks())
				x.wantStep(a, x.asks(), x.act(u, api.ActLook, is))
				x.wantStep(a, x.drops(u))
				x.wantDone(a, is)
				x.wantSame(before, nil)
			}
		}
	}
}

// P14.4: Give

// someActs are acts by which an owner may give a monitor away, or not.
var someActs = []int{api.ActExit, api.ActRelease, api.ActNone, 77}

// Without a thread in the queue there is no owner any more, however deep it was.
func TestGiveToNobody(t *testing.T) {
	for _, act := range someActs {
		for _, depth := range []int{1, 5, api.MaxDepth} {
			x := newScene(t).owned(2, depth)
			before := slices.Clone(x.b.cells)
			a := fat.Give(x.Ground, 2, x.o, x.n, act)
			x.wantStep(a, load(x.Entry(x.n)))
			x.wantView(2, depth)
			x.wantStep(a, x.becomes(-1, 0), x.act(2, act, 0))
			x.wantView(-1, 0)
			x.wantDone(a, -1)
			x.wantSame(before, map[int]uint64{x.Hold(x.n): 0})
		}
	}
}

// The first thread of the queue becomes the owner, as deep as its Saved cell says, and by the act that goes with it; the others stay, in order.
func TestGive(t *testing.T) {
	for _, act := range someActs {
		for _, l := range [][]int{{0}, {3}, {0, 1}, {3, 0, 1}, {1, 3, 0}} {
			for _, saved := range []int{0, 1, 2, 255, api.MaxDepth} {
				x := newScene(t).owned(2, 6).entering(map[int]int{l[0]: saved, l[len(l)-1]: saved}, l...)
				a, first := fat.Give(x.Ground, 2, x.o, x.n, act), l[0]
				x.stepsTill(a, store(x.State(first), api.StateIdle))
				x.wantQueue(l[1:]...)
				x.wantStep(a, load(x.Saved(first)))
				x.wantView(2, 6)
				if saved == 0 {
					x.wantStep(a, x.becomes(first, 1), x.act(2, act, 0), x.act(first, api.ActEnter, 0))
				} else {
					x.wantStep(a, x.becomes(first, saved), x.act(2, act, 0), x.act(first, api.ActGrant, 0))
				}
				x.wantDone(a, first)
				x.wantView(first, max(1, saved))
				x.wantQueue(l[1:]...)
				x.wantStates(l[1:]...)
			}
		}
	}
}

// wantStates tests that these threads are entering, and all others idle, and that nobody has got a permit, or the latch.
func (x *scene) wantStates(entering ...int) {
	x.Helper()
	for u := range x.Threads {
		want := api.StateOf(api.StateIdle, 0)
		if slices.Contains(entering, u) {
			want = api.StateOf(api.StateEntering, x.n)
		}
		if v := x.b.cells[x.State(u)]; v != want || x.Permits.Has(u) {
			x.Fatalf("State of %d is %d, want %d; Has = %v", u, v, want, x.Permits.Has(u))
		}
	}
	if v := x.b.cells[x.Latch(x.n)]; v != 0 {
		x.Fatalf("the latch is %d", v)
	}
}

// P14.6: one after the other becomes the owner, in the order of the queue, each by the one ahead.
func TestOwnersInOrder(t *testing.T) {
	x := newScene(t).owned(2, 1).entering(map[int]int{0: 3}, 3, 0, 1)
	for _, u := range []int{2, 3, 0, 0, 0, 1} {
		if v := task.Run(x.exit(u)); v != ok {
			t.Fatalf("Exit of %d: %d", u, v)
		}
	}
	x.wantView(-1, 0)
	want := []api.Event{
		x.act(2, api.ActExit, 0), x.act(3, api.ActEnter, 0), x.act(3, api.ActExit, 0), x.act(0, api.ActGrant, 0),
		x.act(0, api.ActExit, 0), x.act(0, api.ActExit, 0), x.act(0, api.ActExit, 0), x.act(1, api.ActEnter, 0), x.act(1, api.ActExit, 0),
	}
	if got := x.Events(); !slices.Equal(got, want) {
		t.Fatalf("the log is %v, want %v", got, want)
	}
}

// P14.4: with goroutines, a thread may see that it is the owner as soon as that is stored, and return; so the act by which it became so is logged by then.
func TestActsAreLoggedInTime(t *testing.T) {
	x := newScene(t).owned(2, 1).entering(map[int]int{0: 3}, 3, 0)
	stores := 0
	x.b.watch = func(i int, v uint64) {
		if i != x.Hold(x.n) {
			return
		}
		u, _ := api.HeldBy(v)
		want := []api.Event{x.act(2, api.ActExit, 0), x.act(3, api.ActEnter, 0), x.act(3, api.ActExit, 0), x.act(0, api.ActGrant, 0)}
		stores++
		if got := x.Events(); !slices.Equal(got, want[:2*stores]) {
			t.Errorf("the log is %v when %d becomes the owner", got, u)
		}
	}
	task.Run(x.exit(2))
	task.Run(x.exit(3))
	if stores != 2 {
		t.Errorf("%d threads became the owner", stores)
	}
}
