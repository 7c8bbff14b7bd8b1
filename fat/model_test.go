package fat_test

import (
	"iter"
	"slices"
	"sync"
	"testing"

	"doorkeeper/api"
	"doorkeeper/fat"
	"doorkeeper/ground"
	"doorkeeper/machine"
	"doorkeeper/queue"
	"doorkeeper/spec"
	"doorkeeper/task"
)

// mixer makes numbers with mixed bits, the same ones in each run.
func mixer(state uint64) func(n int) int {
	return func(n int) int {
		state += 0x9e3779b97f4a7c15
		z := (state ^ state>>30) * 0xbf58476d1ce4e5b9
		z = (z ^ z>>27) * 0x94d049bb133111eb
		return int((z ^ z>>31) % uint64(n))
	}
}

// schedules yields all lists of so many picks of so many threads.
func schedules(threads, picks int) iter.Seq[[]int] {
	return func(yield func([]int) bool) {
		l := make([]int, picks)
		for {
			if !yield(l) {
				return
			}
			i := 0
			for i < picks && l[i] == threads-1 {
				l[i] = 0
				i++
			}
			if i == picks {
				return
			}
			l[i]++
		}
	}
}

// match compares a Play with the automaton, after each pick.
type match struct {
	*testing.T
	g     *ground.Ground
	at    spot
	m     *machine.Machine
	s     *spec.Spec
	taken int
	// The threads in the order in which they came into the queue, and in the order in which they were then made owners; and those in it.
	came, owned, lined []int
}

// newMatch has an object at, without an owner.
func newMatch(t *testing.T, g *ground.Ground, at spot, lists [][]api.Call) *match {
	fatten(g, at)
	x := &match{T: t, g: g, at: at, s: spec.New(g.Threads, g.Objects)}
	x.m = fat.Play(g, at.o, at.n, at.gen, lists)
	x.compare()
	return x
}

// pick makes a pick, which is one operation at most, and tells whether it was a step.
func (x *match) pick(p api.Pick) bool {
	x.Helper()
	parked, steps := x.m.Parked(p.Thread), x.g.Cells.Steps()
	is := x.m.Pick(p)
	if n := x.g.Cells.Steps() - steps; n > 1 || n > 0 && (!is || parked) {
		x.Fatalf("%v is %d operations", p, n)
	}
	x.follow(p.Thread, x.compare())
	return is
}

// compare takes what was logged since the last time, which it returns, and compares what is observed.
func (x *match) compare() []api.Event {
	x.Helper()
	l := x.g.Events()
	logged := l[x.taken:]
	for _, e := range logged {
		if !x.s.Take(e) {
			x.Fatalf("the automaton does not accept %v, of %v", e, l)
		}
	}
	x.taken = len(l)
	for o := range x.g.Objects {
		got, want := x.g.View(o), x.s.View(o)
		if got.Owner != want.Owner || got.Depth != want.Depth || !slices.Equal(got.Waiting, want.Waiting) {
			x.Fatalf("View(%d) = %v, want %v, behind %v", o, got, want, l)
		}
	}
	return logged
}

// follow notes which threads have come into the queue, and which one a step of the thread u has made the owner.
func (x *match) follow(u int, logged []api.Event) {
	now := queue.Look(x.g.Cells, x.g.Map, x.g.Entry(x.at.n))
	if len(now) > len(x.lined) {
		x.came = append(x.came, now[len(now)-1])
	}
	x.lined = now
	for _, e := range logged {
		if e.Kind == api.EvAct && e.Act == api.ActEnter && e.Thread != u {
			x.owned = append(x.owned, e.Thread)
		}
	}
}

// finish makes picks in turn until all threads are done, which must be within so many.
func (x *match) finish(most int) {
	x.Helper()
	for n := 0; !x.m.Over(); n++ {
		if n == most {
			x.Fatalf("it is not over after %d picks, behind %v", most, x.g.Events())
		}
		x.pick(api.Pick{Thread: n % x.m.Threads()})
	}
}

// wantInOrder tests that the threads from the queue became owners in the order in which they came.
func (x *match) wantInOrder() {
	x.Helper()
	if !slices.Equal(x.came, x.owned) {
		x.Fatalf("the threads %v came into the queue, and %v became owners from it, behind %v", x.came, x.owned, x.g.Events())
	}
}

// wantAll tests the values of all calls, which each thread has alike.
func (x *match) wantAll(want ...int) {
	x.Helper()
	for u := range x.m.Threads() {
		if got := x.m.Values(u); !slices.Equal(got, want) {
			x.Fatalf("Values(%d) = %v, want %v", u, got, want)
		}
	}
}

// P14.6: two threads that enter and leave, for all lists of 12 picks, from the start on, and from the time on at which one is in the monitor.
func TestTwoThreadsInAllOrders(t *testing.T) {
	queued := 0
	for picks := range schedules(2, 12) {
		for ahead := range 2 {
			g := ground.New(mapOf(2, 2, 1), nil, nil)
			x := newMatch(t, g, spot{1, 0, 3}, [][]api.Call{{in, out}, {in, out}})
			for len(x.m.Values(0)) < ahead {
				x.pick(api.Pick{})
			}
			for _, u := range picks {
				x.pick(api.Pick{Thread: u})
			}
			x.finish(200)
			x.wantAll(ok, ok)
			x.wantInOrder()
			queued += len(x.came)
		}
	}
	if queued < 2000 {
		t.Errorf("%d threads came into the queue", queued)
	}
}

// P14.6: three threads, of which the first one goes ahead till it is in the monitor, for all lists of 7 picks after that.
func TestThreeThreadsInAllOrders(t *testing.T) {
	both := 0
	for picks := range schedules(3, 7) {
		g := ground.New(mapOf(3, 2, 1), nil, nil)
		x := newMatch(t, g, spot{1, 0, 0}, [][]api.Call{{in, out}, {in, out}, {in, out}})
		for len(x.m.Values(0)) == 0 {
			x.pick(api.Pick{})
		}
		for _, u := range []int{1, 2, 1, 2, 1, 1, 1} {
			x.pick(api.Pick{Thread: u})
		}
		for _, u := range picks {
			x.pick(api.Pick{Thread: u})
		}
		x.finish(300)
		x.wantAll(ok, ok)
		x.wantInOrder()
		if len(x.came) == 2 {
			both++
		}
	}
	if both == 0 {
		t.Error("never were two threads in the queue")
	}
}

// someCalls are calls of a thread that is so deep in the object, and how deep it is after each: some of them are refused.
func someCalls(next func(n int) int, o int) []api.Call {
	var l []api.Call
	depth := 0
	for range 1 + next(12) {
		c := api.Call{Op: []int{api.OpEnter, api.OpExit, api.OpHolds, api.OpExit}[next(4)], Obj: o, Arg: next(3)}
		switch {
		case c.Op == api.OpEnter:
			depth++
		case c.Op == api.OpExit && depth > 0:
			depth--
		}
		l = append(l, c)
	}
	for ; depth > 0; depth-- {
		l = append(l, api.Call{Op: api.OpExit, Obj: o})
	}
	return l
}

// P14.6, P14.7: any calls, in any order, also with picks that are no steps, or wake threads without a reason.
func TestAnyCallsInAnyOrder(t *testing.T) {
	queued, refused, longest := 0, 0, 0
	for seed := range 250 {
		next := mixer(uint64(seed))
		g := kinds[seed%2].make(mapOf(1+next(6), 1+next(3), 1+next(3)), nil, nil)
		at := spot{next(g.Objects), next(g.Monitors), next(3)}
		lists := make([][]api.Call, g.Threads)
		for u := range lists {
			lists[u] = someCalls(next, at.o)
		}
		x := newMatch(t, g, at, lists)
		for range next(800) {
			// Some threads are picked several times in a row.
			p := api.Pick{Thread: next(g.Threads+2) - 1, Kind: max(0, next(12)-8)}
			for range 1 + next(12)*next(2) {
				x.pick(p)
			}
			longest = max(longest, len(x.lined))
		}
		x.finish(20000)
		x.wantInOrder()
		queued += len(x.came)
		refused += x.wantResults(lists)
	}
	if queued < 200 || refused < 200 || longest < 4 {
		t.Errorf("%d threads came into the queue, at most %d at a time; %d calls were refused", queued, longest, refused)
	}
}

// wantResults tests that each call's value is the one that it has when its thread is alone, and returns how many were refused.
func (x *match) wantResults(lists [][]api.Call) int {
	x.Helper()
	refused := 0
	for u, l := range lists {
		depth := 0
		var want []int
		for _, c := range l {
			v := ok
			switch {
			case c.Op == api.OpEnter:
				depth++
			case c.Op == api.OpHolds:
				v = min(1, depth)
			case depth > 0:
				depth--
			default:
				v = owner
				refused++
			}
			want = append(want, v)
		}
		if got := x.m.Values(u); !slices.Equal(got, want) {
			x.Fatalf("Values(%d) = %v, want %v of %v", u, got, want, l)
		}
	}
	return refused
}

// P14.6: at its greatest depth, the owner is refused, and leaves again.
func TestTheGreatestDepth(t *testing.T) {
	x := newScene(t).owned(1, api.MaxDepth-1)
	want := []int{ok, tooDeep, tooDeep, ok, ok, 1, ok, ok}
	calls := []*task.Task{x.enter(1), x.enter(1), x.enter(1), x.exit(1), x.enter(1), x.holds(1), x.exit(1), x.enter(1)}
	var got []int
	for _, a := range calls {
		got = append(got, task.Run(a))
	}
	if !slices.Equal(got, want) {
		t.Fatalf("results %v, want %v", got, want)
	}
	x.wantView(1, api.MaxDepth)
}

// P14.1: what threads do within the latch is not disturbed by others, whatever the picks are.
func TestWithinOfManyThreads(t *testing.T) {
	for seed := range 300 {
		next := mixer(uint64(seed))
		g := ground.New(mapOf(4, 1, 2), nil, nil)
		m := machine.New()
		for u := range g.Threads {
			m.Make(func(i int) *task.Task {
				if i == 5 {
					return nil
				}
				return fat.Within(g, u, 1, 0, func() *task.Task {
					return task.Then(task.Load(g.Cells, g.Spare(0)), func(v int) *task.Task {
						return task.Store(g.Cells, g.Spare(0), uint64(v)+1)
					})
				})
			})
		}
		for !m.Over() {
			m.Pick(api.Pick{Thread: next(g.Threads)})
		}
		if v := g.Cells.Load(g.Spare(0)); v != 20 {
			t.Fatalf("the cell is %d, want 20", v)
		}
	}
}

// calledOnce does a call as Noted does, with all of its steps, and returns its value.
func calledOnce(g *ground.Ground, u, i int, c api.Call, a *task.Task) int {
	g.Call(u, i, c)
	task.Run(g.Begin(u))
	v := task.Run(a)
	task.Run(g.End(u))
	g.Return(u, i, api.Unpacked(v))
	return v
}

// P14.6: with goroutines, the automaton accepts the log, too, and what only the owner changes is right.
func TestGoroutinesAtAMonitor(t *testing.T) {
	const rounds = 150
	g := ground.Real(mapOf(4, 2, 1), nil, nil)
	at := spot{1, 0, 2}
	fatten(g, at)
	count := 0
	var all sync.WaitGroup
	for u := range g.Threads {
		all.Go(func() {
			for i := range rounds {
				calledOnce(g, u, 5*i, in, fat.Enter(g, u, at.o, at.n, at.gen))
				calledOnce(g, u, 5*i+1, in, fat.Enter(g, u, at.o, at.n, at.gen))
				count++
				calledOnce(g, u, 5*i+2, out, fat.Exit(g, u, at.o, at.n, at.gen))
				calledOnce(g, u, 5*i+3, out, fat.Exit(g, u, at.o, at.n, at.gen))
				if v := calledOnce(g, u, 5*i+4, look, fat.Holds(g, u, at.o, at.n, at.gen)); v != 0 {
					t.Errorf("Holds of %d: %d", u, v)
				}
			}
		})
	}
	all.Wait()
	if count != g.Threads*rounds {
		t.Errorf("the count is %d, want %d", count, g.Threads*rounds)
	}
	l := g.Events()
	if i := spec.Check(g.Threads, g.Objects, l); i >= 0 {
		t.Errorf("the automaton does not accept the event %d, %v", i, l[max(0, i-10):i+1])
	}
	if v := g.View(at.o); v.Owner != -1 || v.Depth != 0 {
		t.Errorf("View = %v", v)
	}
}
