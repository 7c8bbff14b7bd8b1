package wake_test

import (
	"iter"
	"runtime"
	"slices"
	"sync"
	"sync/atomic"
	"testing"

	"doorkeeper/api"
	"doorkeeper/fat"
	"doorkeeper/ground"
	"doorkeeper/machine"
	"doorkeeper/queue"
	"doorkeeper/spec"
	"doorkeeper/task"
	"doorkeeper/wake"
)

// Calls at a monitor, for which the tests have waits and notifications of their own: what a wait does up to its sleep is not this layer's, nor is how it is notified.

// refuse logs that a thread that is not the owner is refused, and returns a task that is done with that.
func refuse(g *ground.Ground, t int, at spot) *task.Task {
	g.Act(t, api.ActRefuse, at.o, int(api.ErrOwner))
	return task.Ready(api.Packed(api.Result{Code: api.ErrOwner}))
}

// asOwner returns a task that is what then returns for the depth, within the latch, if the thread is the owner.
func asOwner(g *ground.Ground, t int, at spot, then func(depth int) *task.Task) *task.Task {
	return fat.Within(g, t, at.n, at.gen, func() *task.Task {
		return task.Then(task.Load(g.Cells, g.Hold(at.n)), func(v int) *task.Task {
			u, depth := api.HeldBy(uint64(v))
			if u != t {
				return refuse(g, t, at)
			}
			return then(depth)
		})
	})
}

// stored returns a task that logs an act of the thread, and stores v in the cell i.
func stored(g *ground.Ground, t int, at spot, act, other, i int, v uint64) *task.Task {
	return task.One(func() int {
		g.Act(t, act, at.o, other)
		g.Cells.Store(i, v)
		return 0
	})
}

// wait waits at the monitor.
func wait(g *ground.Ground, t int, at spot, timed bool) *task.Task {
	next, rests := -1, false
	release := asOwner(g, t, at, func(depth int) *task.Task {
		return task.Then(task.Load(g.Cells, g.Flag(t)), func(flag int) *task.Task {
			if flag != 0 {
				return task.Seq(stored(g, t, at, api.ActClear, 0, g.Flag(t), 0), task.Ready(api.HowInterrupted))
			}
			rests = true
			return task.Seq(
				task.Store(g.Cells, g.Saved(t), uint64(depth)),
				task.Store(g.Cells, g.State(t), api.StateOf(api.StateWaiting, at.n)),
				queue.Push(g.Cells, g.Map, g.Wait(at.n), t),
				task.Then(fat.Give(g, t, at.o, at.n, api.ActRelease), func(u int) *task.Task {
					next = u
					return nil
				}),
			)
		})
	})
	return task.Then(release, func(r int) *task.Task {
		if rests {
			return task.Seq(fat.Pass(g, next), wake.Rest(g, t, at.o, at.n, timed))
		}
		return task.Ready(r)
	})
}

// notify wakes the first thread that waits at the monitor, or all of them.
func notify(g *ground.Ground, t int, at spot, all bool) *task.Task {
	return asOwner(g, t, at, func(int) *task.Task {
		return task.Loop(func() *task.Task {
			return task.Then(queue.Pop(g.Cells, g.Map, g.Wait(at.n)), func(u int) *task.Task {
				if u < 0 {
					g.Act(t, api.ActNotify, at.o, -1)
					return task.Ready(0)
				}
				again := 0
				if all {
					again = task.Again
				}
				return task.Seq(
					stored(g, t, at, api.ActNotify, u, g.State(u), api.StateOf(api.StateNotified, at.n)),
					queue.Push(g.Cells, g.Map, g.Entry(at.n), u),
					task.Ready(again),
				)
			})
		})
	})
}

// done is the task of a call of the thread t.
func done(g *ground.Ground, t int, at spot, c api.Call) *task.Task {
	switch c.Op {
	case api.OpEnter:
		return fat.Enter(g, t, at.o, at.n, at.gen)
	case api.OpExit:
		return fat.Exit(g, t, at.o, at.n, at.gen)
	case api.OpWait, api.OpTimed:
		return wait(g, t, at, c.Op == api.OpTimed)
	case api.OpNotify, api.OpAll:
		return notify(g, t, at, c.Op == api.OpAll)
	case api.OpInterrupt:
		return wake.Interrupt(g, t, at.o, c.Arg)
	}
	return fat.Holds(g, t, at.o, at.n, at.gen)
}

// mixer makes numbers with mixed bits, the same ones in each run.
func mixer(state uint64) func(n int) int {
	return func(n int) int {
		state += 0x9e3779b97f4a7c15
		z := (state ^ state>>30) * 0xbf58476d1ce4e5b9
		z = (z ^ z>>27) * 0x94d049bb133111eb
		return int((z ^ z>>31) % uint64(n))
	}
}

// match compares a machine of threads at a monitor with the automaton, after each pick.
type match struct {
	*testing.T
	g     *ground.Ground
	at    spot
	m     *machine.Machine
	s     *spec.Spec
	taken int
	// How many picks of each kind each thread took as steps since it began to wait.
	since [][3]int
	// How many waits ended in each way after they had begun, and how many were interrupted ahead of that.
	hows  [api.Hows]int
	early int
}

// newMatch has threads with these calls at an object without an owner.
func newMatch(t *testing.T, g *ground.Ground, at spot, lists [][]api.Call) *match {
	fatten(g, at)
	x := &match{T: t, g: g, at: at, s: spec.New(g.Threads, g.Objects), since: make([][3]int, g.Threads)}
	x.m = fat.Noted(g, lists, func(t int, c api.Call) *task.Task { return done(g, t, at, c) })
	x.compare()
	return x
}

// pick makes a pick, which is one operation at most.
func (x *match) pick(p api.Pick) {
	x.Helper()
	parked, steps := x.m.Parked(p.Thread), x.g.Cells.Steps()
	is := x.m.Pick(p)
	if n := x.g.Cells.Steps() - steps; n > 1 || n > 0 && (!is || parked) {
		x.Fatalf("%v is %d operations", p, n)
	}
	if is {
		x.since[p.Thread][p.Kind]++
	}
	x.compare()
}

// compare takes what was logged since the last time, and compares what is observed, and which flags are up.
func (x *match) compare() {
	x.Helper()
	l := x.g.Events()
	for _, e := range l[x.taken:] {
		call, _ := x.s.Open(e.Thread)
		if !x.s.Take(e) {
			x.Fatalf("the automaton does not accept %v, of %v", e, l)
		}
		x.follow(e, call)
	}
	x.taken = len(l)
	for o := range x.g.Objects {
		got, want := x.g.View(o), x.s.View(o)
		if got.Owner != want.Owner || got.Depth != want.Depth || !slices.Equal(got.Waiting, want.Waiting) {
			x.Fatalf("View(%d) = %v, want %v, behind %v", o, got, want, l)
		}
	}
	all := x.g.Cells.All()
	for u := range x.g.Threads {
		if up := all[x.g.Flag(u)] != 0; up != x.s.Flag(u) {
			x.Fatalf("the flag of %d: %v, want %v, behind %v", u, up, x.s.Flag(u), l)
		}
	}
}

// follow tests that a wait of this call ends by time, or without a reason, only after such a pick.
func (x *match) follow(e api.Event, call api.Call) {
	x.Helper()
	if e.Kind == api.EvAct && e.Act == api.ActRelease {
		x.since[e.Thread] = [3]int{}
	}
	if e.Kind != api.EvReturn || call.Op != api.OpWait && call.Op != api.OpTimed || e.Res.Code != api.OK {
		return
	}
	how, since := e.Res.Value, x.since[e.Thread]
	if how == api.HowTimed && (since[api.PickTime] == 0 || call.Op != api.OpTimed) || how == api.HowSpurious && since[api.PickSpurious] == 0 {
		x.Fatalf("%v ends by %d after picks %v", call, how, since)
	}
	x.hows[how]++
}

// finish makes picks in turn until all threads are done, with so many at most. When nobody can go on, it wakes a thread that waits.
func (x *match) finish(most int) {
	x.Helper()
	for n := 0; !x.m.Over(); n++ {
		if n == most {
			x.Fatalf("it is not over after %d picks, behind %v", most, x.g.Events())
		}
		if len(x.m.Able()) > 0 {
			x.pick(api.Pick{Thread: n % x.m.Threads()})
			continue
		}
		x.wantAllWaiting()
		x.pick(x.waker(n))
	}
}

// wantAllWaiting tests that no wakening was lost: nobody owns the object, and whoever is not done waits for it, and was not interrupted.
func (x *match) wantAllWaiting() {
	x.Helper()
	v := x.s.View(x.at.o)
	for u := range x.m.Threads() {
		if !x.m.Done(u) && !slices.Contains(v.Waiting, u) || !x.m.Done(u) && x.s.Flag(u) {
			x.Fatalf("the thread %d does not go on, with the flag %v and the view %v, behind %v", u, x.s.Flag(u), v, x.g.Events())
		}
	}
	if v.Owner != -1 {
		x.Fatalf("nobody goes on, with the view %v, behind %v", v, x.g.Events())
	}
}

// waker is a pick that wakes a thread, by its time if that may be.
func (x *match) waker(n int) api.Pick {
	for i := range x.m.Threads() {
		p := api.Pick{Thread: (n + i) % x.m.Threads(), Kind: api.PickTime}
		if x.m.Can(p) {
			return p
		}
		p.Kind = api.PickSpurious
		if x.m.Can(p) {
			return p
		}
	}
	return api.Pick{}
}

// picksOf yields all lists of so many of these picks.
func picksOf(kinds []api.Pick, picks int) iter.Seq[[]api.Pick] {
	return func(yield func([]api.Pick) bool) {
		at, l := make([]int, picks), make([]api.Pick, picks)
		for {
			for i, k := range at {
				l[i] = kinds[k]
			}
			if !yield(l) {
				return
			}
			i := 0
			for i < picks && at[i] == len(kinds)-1 {
				at[i] = 0
				i++
			}
			if i == picks {
				return
			}
			at[i]++
		}
	}
}

// calls are calls of an object.
func calls(o int, ops ...int) []api.Call {
	var l []api.Call
	for _, op := range ops {
		l = append(l, api.Call{Op: op, Obj: o})
	}
	return l
}

// waitsTill makes picks of the thread until it sleeps in its wait.
func (x *match) waitsTill(u int) {
	x.Helper()
	for n := 0; !x.m.Parked(u); n++ {
		if n == 100 {
			x.Fatalf("the thread %d does not wait", u)
		}
		x.pick(api.Pick{Thread: u})
	}
}

// pickSome makes these picks, and behind each some more steps of its thread, as threads have some to go till they meet.
func (x *match) pickSome(l []api.Pick) {
	x.Helper()
	for i, p := range l {
		x.pick(p)
		for range 1 + i%3 {
			x.pick(api.Pick{Thread: p.Thread})
		}
	}
}

// P15.3: a thread waits, two deep; another one enters and leaves, and a third one interrupts it: all lists of 5 picks, among them some of time and without a reason.
func TestAWaitInAllOrders(t *testing.T) {
	kinds := []api.Pick{{Thread: 0}, {Thread: 1}, {Thread: 2}, {Thread: 0, Kind: api.PickTime}, {Thread: 0, Kind: api.PickSpurious}}
	var hows [api.Hows]int
	granted := 0
	for l := range picksOf(kinds, 5) {
		g := ground.New(mapOf(3, 1, 1), nil, nil)
		x := newMatch(t, g, spot{}, [][]api.Call{
			calls(0, api.OpEnter, api.OpEnter, api.OpTimed, api.OpExit, api.OpExit),
			calls(0, api.OpEnter, api.OpExit),
			calls(0, api.OpInterrupt),
		})
		x.waitsTill(0)
		x.pickSome(l)
		x.finish(300)
		for how, n := range x.hows {
			hows[how] += n
		}
		for _, e := range g.Events() {
			if e.Act == api.ActGrant && e.Kind == api.EvAct {
				granted++
			}
		}
	}
	if hows[api.HowTimed] < 100 || hows[api.HowInterrupted] < 100 || hows[api.HowSpurious] < 100 || hows[api.HowNotified] != 0 || granted != 3125 {
		t.Errorf("waits ended %v, %d were granted", hows, granted)
	}
}

// P15.3: a thread waits that another one notifies, while it is interrupted and its time comes: all lists of 5 picks.
func TestANotifiedWaitInAllOrders(t *testing.T) {
	kinds := []api.Pick{{Thread: 0}, {Thread: 1}, {Thread: 2}, {Thread: 0, Kind: api.PickTime}, {Thread: 0, Kind: api.PickSpurious}}
	var hows [api.Hows]int
	for l := range picksOf(kinds, 5) {
		g := ground.New(mapOf(3, 1, 1), nil, nil)
		x := newMatch(t, g, spot{}, [][]api.Call{
			calls(0, api.OpEnter, api.OpEnter, api.OpTimed, api.OpExit, api.OpExit),
			calls(0, api.OpEnter, api.OpNotify, api.OpExit),
			calls(0, api.OpInterrupt),
		})
		x.waitsTill(0)
		for len(x.m.Values(1)) == 0 {
			x.pick(api.Pick{Thread: 1})
		}
		x.pickSome(l)
		x.finish(300)
		for how, n := range x.hows {
			hows[how] += n
		}
	}
	for how, n := range hows {
		if n < 100 {
			t.Errorf("%d waits ended by %d: %v", n, how, hows)
		}
	}
}

// someCalls are calls of a thread, and how deep it is after each; some of them are refused.
func someCalls(next func(n int) int, o, threads int) []api.Call {
	ops := []int{
		api.OpEnter, api.OpEnter, api.OpEnter, api.OpExit, api.OpExit, api.OpWait, api.OpTimed, api.OpWait, api.OpTimed,
		api.OpNotify, api.OpAll, api.OpInterrupt, api.OpInterrupt, api.OpHolds,
	}
	var l []api.Call
	depth := 0
	for range 1 + next(12) {
		c := api.Call{Op: ops[next(len(ops))], Obj: o, Arg: next(threads)}
		switch {
		case c.Op == api.OpEnter:
			depth++
		case c.Op == api.OpExit && depth > 0:
			depth--
		}
		l = append(l, c)
	}
	for ; depth > 0; depth-- {
		l = append(l, api.Call{Op: api.OpExit, Obj: o})
	}
	return l
}

// P15.3: any calls of any threads, in any order, with picks of all kinds.
func TestAnyWaitsInAnyOrder(t *testing.T) {
	var hows [api.Hows]int
	longest := 0
	for seed := range 400 {
		next := mixer(uint64(seed))
		g := kinds[seed%2].make(mapOf(1+next(6), 1+next(3), 1+next(3)), nil, nil)
		at := spot{next(g.Objects), next(g.Monitors), next(3)}
		lists := make([][]api.Call, g.Threads)
		for u := range lists {
			lists[u] = someCalls(next, at.o, g.Threads)
		}
		x := newMatch(t, g, at, lists)
		for range next(600) {
			// Some threads are picked several times in a row.
			p := api.Pick{Thread: next(g.Threads+2) - 1, Kind: max(0, next(20)-17)}
			for range 1 + next(12)*next(2) {
				x.pick(p)
			}
			longest = max(longest, len(queue.Look(g.Cells, g.Map, g.Wait(at.n))))
		}
		x.finish(20000)
		for how, n := range x.hows {
			hows[how] += n
		}
	}
	for how, n := range hows {
		if n < 60 {
			t.Errorf("%d waits ended by %d: %v", n, how, hows)
		}
	}
	if longest < 3 {
		t.Errorf("at most %d threads waited at a time", longest)
	}
}

// calledOnce does a call as Noted does, with all of its steps, and returns its value.
func calledOnce(g *ground.Ground, u, i int, at spot, c api.Call) int {
	g.Call(u, i, c)
	task.Run(g.Begin(u))
	v := task.Run(done(g, u, at, c))
	task.Run(g.End(u))
	g.Return(u, i, api.Unpacked(v))
	return v
}

// P15.3: with goroutines, all waits end, too, and what only the owner changes is right; one thread interrupts the others, if they are not yet, and notifies them at times.
func TestWaitsOfGoroutines(t *testing.T) {
	const waiters, rounds = 3, 100
	g := ground.Real(mapOf(waiters+1, 2, 1), nil, nil)
	at := spot{1, 0, 2}
	fatten(g, at)
	count := 0
	var ended atomic.Int64
	var all sync.WaitGroup
	for u := range waiters {
		all.Go(func() {
			defer ended.Add(1)
			for i := range rounds {
				op := []int{api.OpWait, api.OpTimed}[min(1, i%3)]
				for k, c := range calls(at.o, api.OpEnter, api.OpEnter, op, api.OpExit, api.OpExit) {
					v := calledOnce(g, u, 5*i+k, at, c)
					if k == 2 && v == api.HowSpurious || k != 2 && v != 0 {
						t.Errorf("%v of %d: %d", c, u, v)
					}
					if k == 2 {
						count++
					}
				}
			}
		})
	}
	all.Go(func() { disturb(g, waiters, at, &ended) })
	all.Wait()
	if count != waiters*rounds {
		t.Errorf("the count is %d, want %d", count, waiters*rounds)
	}
	l := g.Events()
	if i := spec.Check(g.Threads, g.Objects, l); i >= 0 {
		t.Errorf("the automaton does not accept the event %d, %v", i, l[max(0, i-10):i+1])
	}
	if v := g.View(at.o); v.Owner != -1 || v.Depth != 0 || len(v.Waiting) != 0 {
		t.Errorf("View = %v", v)
	}
}

// disturb interrupts the threads below u, of which u itself is none, and notifies them, until all of them have ended. A thread whose flag is up is left alone: of two goroutines that change a flag at the same time, no log could tell which one came first.
func disturb(g *ground.Ground, u int, at spot, ended *atomic.Int64) {
	i := 0
	do := func(c api.Call) {
		calledOnce(g, u, i, at, c)
		i++
	}
	for n := 0; ended.Load() < int64(u); n++ {
		if v := n % u; g.Cells.Load(g.Flag(v)) == 0 {
			do(api.Call{Op: api.OpInterrupt, Obj: at.o, Arg: v})
		}
		if n%50 == 0 && i < 1000 {
			for _, c := range calls(at.o, api.OpEnter, []int{api.OpNotify, api.OpAll}[n/50%2], api.OpExit) {
				do(c)
			}
		}
		runtime.Gosched()
	}
}
