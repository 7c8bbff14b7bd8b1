package await_test

import (
	"slices"
	"testing"

	"doorkeeper/api"
	"doorkeeper/await"
	"doorkeeper/cells"
	"doorkeeper/ground"
	"doorkeeper/task"
)

// P16.2: Notify

// A thread that is not the owner is refused, which changes nothing, whether one waits or not.
func TestNotifyOfAnother(t *testing.T) {
	for _, all := range []bool{false, true} {
		for _, owner := range []int{-1, 0, 2} {
			for _, depth := range []int{0, 1, api.MaxDepth} {
				for _, l := range crowds {
					x := newCrowd(t, l, owner, depth)
					x.b.cells[x.Hold(0)] = api.HoldOf(1, 1)
					before := slices.Clone(x.b.cells)
					a := x.notify(1, all)
					x.wantSteps(a, x.takes(1), x.looks())
					x.wantStep(a, x.asks(), x.act(1, api.ActRefuse, int(api.ErrOwner)))
					x.wantStep(a, x.drops(1))
					x.wantDone(a, refused)
					x.wantSame(before, nil)
				}
			}
		}
	}
}

// If nobody waits, the owner finds that out, and nothing changes.
func TestNotifyNobody(t *testing.T) {
	for _, all := range []bool{false, true} {
		for _, depth := range []int{1, 2, api.MaxDepth} {
			for _, entry := range [][]int{nil, {3}, {2, 4}} {
				x := newCrowd(t, crowd{entry: entry}, 1, depth)
				before := slices.Clone(x.b.cells)
				a := x.notify(1, all)
				x.wantSteps(a, x.takes(1), x.looks(), x.asks())
				x.wantStep(a, load(x.Wait(x.n)), x.act(1, api.ActNotify, -1))
				x.wantView(1, depth)
				x.wantStep(a, x.drops(1))
				x.wantDone(a, ok)
				x.wantSame(before, nil)
			}
		}
	}
}

// notifies takes the steps by which the first one of those that wait is notified, and comes behind those that wait to enter, up to the operation behind that.
func (x *scene) notifies(a *task.Task, wait, entry []int, depth int, last operation, acts ...api.Event) {
	x.Helper()
	u := wait[0]
	x.wantView(1, depth, wait...)
	x.wantQueueSteps(a, x.Wait(x.n), x.states(u, api.StateNotified), x.act(1, api.ActNotify, u))
	x.wantView(1, depth, wait[1:]...)
	x.wantQueues(wait[1:], entry)
	x.wantQueueSteps(a, x.Entry(x.n), last, acts...)
	x.wantQueues(wait[1:], append(slices.Clone(entry), u))
}

// lines are threads that wait, and threads that wait to enter, without the thread 1.
var lines = [][2][]int{
	{{3}, nil},
	{{3}, {0}},
	{{0, 4}, nil},
	{{4, 0}, {3, 2}},
	{{2, 3, 0}, {4}},
	{{4, 3, 2, 0}, nil},
}

// One notification is for the thread that has waited longest, and nobody gets a permit.
func TestNotify(t *testing.T) {
	for _, l := range lines {
		for _, depth := range []int{1, 2, api.MaxDepth} {
			x := newCrowd(t, crowd{l[0], l[1], 0}, 1, depth)
			x.b.cells[x.Flag(l[0][0])] = 1
			a := x.notify(1, false)
			x.wantSteps(a, x.takes(1), x.looks(), x.asks())
			x.notifies(a, l[0], l[1], depth, x.drops(1))
			x.wantDone(a, ok)
			x.wantNotified(l, 1, depth)
		}
	}
}

// With all, it is repeated until nobody waits, which is found out at the end.
func TestNotifyAll(t *testing.T) {
	for _, l := range lines {
		for _, depth := range []int{1, 2, api.MaxDepth} {
			x := newCrowd(t, crowd{l[0], l[1], 0}, 1, depth)
			x.b.cells[x.Flag(l[0][0])] = 1
			a := x.notify(1, true)
			x.wantSteps(a, x.takes(1), x.looks(), x.asks())
			for i := range l[0] {
				next, acts := load(x.Wait(x.n)), []api.Event{}
				if i == len(l[0])-1 {
					acts = append(acts, x.act(1, api.ActNotify, -1))
				}
				x.notifies(a, l[0][i:], append(slices.Clone(l[1]), l[0][:i]...), depth, next, acts...)
			}
			x.wantStep(a, x.drops(1))
			x.wantDone(a, ok)
			x.wantNotified(l, len(l[0]), depth)
		}
	}
}

// wantNotified tests that n threads were notified: what they are about, how deep they were, and that all else is as it was.
func (x *scene) wantNotified(l [2][]int, n, depth int) {
	x.Helper()
	x.wantView(1, depth, l[0][n:]...)
	x.wantQueues(l[0][n:], append(slices.Clone(l[1]), l[0][:n]...))
	x.wantPermits()
	for i, u := range l[0] {
		state := api.StateWaiting
		if i < n {
			state = api.StateNotified
		}
		flag := uint64(0)
		if i == 0 {
			flag = 1
		}
		if c := x.b.cells; c[x.State(u)] != api.StateOf(state, x.n) || c[x.Saved(u)] != 2 || c[x.Flag(u)] != flag {
			x.Fatalf("State of %d is %d, Saved is %d, Flag is %d", u, c[x.State(u)], c[x.Saved(u)], c[x.Flag(u)])
		}
	}
	for _, u := range l[1] {
		if c := x.b.cells; c[x.State(u)] != api.StateOf(api.StateEntering, x.n) || c[x.Saved(u)] != 0 {
			x.Fatalf("State of %d is %d, Saved is %d", u, c[x.State(u)], c[x.Saved(u)])
		}
	}
	if v := x.b.cells[x.Latch(x.n)]; v != 0 {
		x.Fatalf("the latch is %d", v)
	}
}

// Those that were notified become owners in the order in which they had waited, behind those that waited to enter, and as deep as they were.
func TestOwnersAfterNotifications(t *testing.T) {
	for _, all := range []bool{false, true} {
		x := newCrowd(t, crowd{wait: []int{4, 0, 3}, entry: []int{2}}, 1, 1)
		for range 3 {
			if v := task.Run(x.notify(1, all)); v != ok {
				t.Fatalf("Notify is %d", v)
			}
		}
		log := len(x.Events())
		for _, u := range []int{1, 2, 4, 4, 0, 0, 3, 3} {
			if v := task.Run(x.exit(u)); v != ok {
				t.Fatalf("Exit of %d: %d", u, v)
			}
		}
		want := []api.Event{
			x.act(1, api.ActExit, 0), x.act(2, api.ActEnter, 0), x.act(2, api.ActExit, 0), x.act(4, api.ActGrant, 0),
			x.act(4, api.ActExit, 0), x.act(4, api.ActExit, 0), x.act(0, api.ActGrant, 0), x.act(0, api.ActExit, 0), x.act(0, api.ActExit, 0),
			x.act(3, api.ActGrant, 0), x.act(3, api.ActExit, 0), x.act(3, api.ActExit, 0),
		}
		if got := x.Events()[log:]; !slices.Equal(got, want) {
			t.Fatalf("the log is %v, want %v", got, want)
		}
	}
}

// Those that wait at another monitor go on to wait.
func TestNotifyAtAnotherMonitor(t *testing.T) {
	x := newScene(t)
	x.spot = spot{0, 0, 1}
	fatten(x.Ground, x.spot)
	x.waiting(2, 3, 4)
	x.spot = here
	x.owned(1, 1)
	before := slices.Clone(x.b.cells)
	for _, all := range []bool{false, true} {
		if v := task.Run(x.notify(1, all)); v != ok {
			t.Fatalf("Notify is %d", v)
		}
		x.wantSame(before, nil)
	}
}

// Nothing is promised for a nil ground, or one that nobody laid, but that nothing panics.
func TestNoGround(t *testing.T) {
	for _, a := range []*task.Task{await.Wait(nil, 0, 0, 0, 0, true), await.Notify(nil, 0, 0, 0, 0, true)} {
		x := newScene(t)
		x.wantDone(a, argument)
	}
	for _, g := range []*ground.Ground{{}, {Map: few}, {Map: few, Cells: cells.New(3)}, {Map: mapOf(1<<40, 1, 1), Cells: cells.New(9)}} {
		for _, a := range []*task.Task{await.Wait(g, 1, 0, 0, 0, true), await.Notify(g, 1, 0, 0, 0, true)} {
			for i := range 30 {
				a.Step(i % 3)
			}
		}
	}
}
