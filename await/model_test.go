package await_test

import (
	"iter"
	"runtime"
	"slices"
	"sync"
	"sync/atomic"
	"testing"

	"doorkeeper/api"
	"doorkeeper/await"
	"doorkeeper/fat"
	"doorkeeper/ground"
	"doorkeeper/machine"
	"doorkeeper/queue"
	"doorkeeper/spec"
	"doorkeeper/task"
	"doorkeeper/wake"
)

// mixer makes numbers with mixed bits, the same ones in each run.
func mixer(state uint64) func(n int) int {
	return func(n int) int {
		state += 0x9e3779b97f4a7c15
		z := (state ^ state>>30) * 0xbf58476d1ce4e5b9
		z = (z ^ z>>27) * 0x94d049bb133111eb
		return int((z ^ z>>31) % uint64(n))
	}
}

// picksOf yields all lists of so many of these picks.
func picksOf(some []api.Pick, picks int) iter.Seq[[]api.Pick] {
	return func(yield func([]api.Pick) bool) {
		at, l := make([]int, picks), make([]api.Pick, picks)
		for {
			for i, k := range at {
				l[i] = some[k]
			}
			if !yield(l) {
				return
			}
			i := 0
			for i < picks && at[i] == len(some)-1 {
				at[i] = 0
				i++
			}
			if i == picks {
				return
			}
			at[i]++
		}
	}
}

// match compares a Play with the automaton, after each pick.
type match struct {
	*testing.T
	g     *ground.Ground
	at    spot
	m     *machine.Machine
	s     *spec.Spec
	taken int
	// How many waits ended in each way after they had begun, how many ahead of that, and how many acts of each kind there were.
	hows  [api.Hows]int
	early int
	acts  [api.Acts]int
}

// newMatch has an object at, without an owner.
func newMatch(t *testing.T, g *ground.Ground, at spot, lists [][]api.Call) *match {
	fatten(g, at)
	x := &match{T: t, g: g, at: at, s: spec.New(g.Threads, g.Objects)}
	x.m = await.Play(g, at.o, at.n, at.gen, lists)
	x.compare()
	return x
}

// pick makes a pick, which is one operation at most, and none if it ends a parking.
func (x *match) pick(p api.Pick) bool {
	x.Helper()
	parked, steps := x.m.Parked(p.Thread), x.g.Cells.Steps()
	is := x.m.Pick(p)
	if n := x.g.Cells.Steps() - steps; n > 1 || n > 0 && (!is || parked) {
		x.Fatalf("%v is %d operations", p, n)
	}
	if is {
		x.compare()
	}
	return is
}

// compare takes what was logged since the last time, and compares what is observed, and which flags are up.
func (x *match) compare() {
	x.Helper()
	l := x.g.Events()
	for _, e := range l[x.taken:] {
		x.count(e)
		if !x.s.Take(e) {
			x.Fatalf("the automaton does not accept %v, of %v", e, l)
		}
	}
	x.taken = len(l)
	for o := range x.g.Objects {
		got, want := x.g.View(o), x.s.View(o)
		if got.Owner != want.Owner || got.Depth != want.Depth || !slices.Equal(got.Waiting, want.Waiting) {
			x.Fatalf("View(%d) = %v, want %v, behind %v", o, got, want, l)
		}
	}
	all := x.g.Cells.All()
	for u := range x.g.Threads {
		if up := all[x.g.Flag(u)] != 0; up != x.s.Flag(u) {
			x.Fatalf("the flag of %d: %v, want %v, behind %v", u, up, x.s.Flag(u), l)
		}
	}
}

// count notes what the automaton is about to take.
func (x *match) count(e api.Event) {
	switch c, _ := x.s.Open(e.Thread); {
	case e.Kind == api.EvAct:
		x.acts[e.Act]++
		if e.Act == api.ActClear && x.s.View(x.at.o).Owner == e.Thread {
			x.early++
		}
	case e.Kind == api.EvReturn && (c.Op == api.OpWait || c.Op == api.OpTimed) && e.Res.Code == api.OK:
		x.hows[e.Res.Value]++
	}
}

// turns makes picks in turn until no thread can go on, which must be within so many.
func (x *match) turns(most int) {
	x.Helper()
	for n := 0; len(x.m.Able()) > 0; n++ {
		if n == most {
			x.Fatalf("threads can go on after %d picks, behind %v", most, x.g.Events())
		}
		x.pick(api.Pick{Thread: n % x.m.Threads()})
	}
}

// finish lets all threads go on until they are done. When nobody can, it wakes a thread that waits.
func (x *match) finish(most int) {
	x.Helper()
	for n := 0; ; n++ {
		x.turns(most)
		if x.m.Over() {
			return
		}
		x.wantNothingLost()
		x.wakes(n)
	}
}

// P16.5: wantNothingLost tests, when nobody can go on, that nobody owns the object, and that whoever is not done waits for it, and was neither notified nor interrupted.
func (x *match) wantNothingLost() {
	x.Helper()
	v := x.s.View(x.at.o)
	for u := range x.m.Threads() {
		if !x.m.Done(u) && (!slices.Contains(v.Waiting, u) || x.s.Flag(u)) {
			x.Fatalf("the thread %d does not go on, with the flag %v and the view %v, behind %v", u, x.s.Flag(u), v, x.g.Events())
		}
	}
	if v.Owner != -1 {
		x.Fatalf("nobody goes on, with the view %v, behind %v", v, x.g.Events())
	}
}

// wakes wakes one of the threads, all of which are parked or done, by its time if that may be; its wait returns then, as nobody else goes on.
func (x *match) wakes(n int) {
	x.Helper()
	for i := range x.m.Threads() {
		u := (n + i) % x.m.Threads()
		calls := len(x.m.Values(u))
		if !x.pick(api.Pick{Thread: u, Kind: api.PickTime}) && !x.pick(api.Pick{Thread: u, Kind: api.PickSpurious}) {
			continue
		}
		for n := 0; n < 60 && len(x.m.Values(u)) == calls; n++ {
			x.pick(api.Pick{Thread: u})
		}
		if len(x.m.Values(u)) == calls {
			x.Fatalf("the wait of %d does not return, behind %v", u, x.g.Events())
		}
		return
	}
	x.Fatalf("nobody can be woken, behind %v", x.g.Events())
}

// till makes picks of the thread until it has done so many calls, or is parked.
func (x *match) till(u, calls int) {
	x.Helper()
	for n := 0; !x.m.Parked(u) && len(x.m.Values(u)) < calls; n++ {
		if n == 100 {
			x.Fatalf("the thread %d does not go on", u)
		}
		x.pick(api.Pick{Thread: u})
	}
}

// P16.4, P16.5: a thread that waits, and one that notifies it, for all lists of 9 picks, from different times on: how many calls each of them has done by then.
func TestAWaitAndANotificationInAllOrders(t *testing.T) {
	t.Parallel()
	hows, nobody := [api.Hows]int{}, 0
	for picks := range picksOf([]api.Pick{{Thread: 0}, {Thread: 1}}, 9) {
		for _, ahead := range [][2]int{{0, 0}, {1, 0}, {0, 1}, {3, 0}, {3, 1}, {3, 2}} {
			for i, op := range []int{api.OpNotify, api.OpAll} {
				g := ground.New(mapOf(2, 1, 1), nil, nil)
				waits := calls(0, api.OpEnter, api.OpEnter, []int{api.OpTimed, api.OpWait}[i], api.OpExit, api.OpExit)
				x := newMatch(t, g, spot{0, 0, 3}, [][]api.Call{waits, calls(0, api.OpEnter, op, api.OpExit)})
				x.till(0, ahead[0])
				x.till(1, ahead[1])
				for _, p := range picks {
					x.pick(p)
				}
				x.finish(200)
				for how, n := range x.hows {
					hows[how] += n
				}
				if x.hows[api.HowNotified] == 0 {
					nobody++
				}
			}
		}
	}
	if hows[api.HowNotified] < 2000 || nobody < 250 || hows[api.HowTimed]+hows[api.HowSpurious] != nobody || hows[api.HowInterrupted] != 0 {
		t.Errorf("waits ended %v, nobody was notified %d times", hows, nobody)
	}
}

// pickSome makes these picks, and behind each some more steps of its thread, as threads have some to go till they meet.
func (x *match) pickSome(l []api.Pick) {
	x.Helper()
	for i, p := range l {
		x.pick(p)
		for range 2 + 3*(i%3) {
			x.pick(api.Pick{Thread: p.Thread})
		}
	}
}

// P16.4, P16.5: two threads wait, one of them with a time; a third one notifies, and a fourth one interrupts the first: all lists of 5 picks, among them some of time and without a reason.
func TestTwoWaitsInAllOrders(t *testing.T) {
	t.Parallel()
	some := []api.Pick{{Thread: 0}, {Thread: 1}, {Thread: 2}, {Thread: 3}, {Thread: 1, Kind: api.PickTime}, {Thread: 0, Kind: api.PickSpurious}}
	var hows [api.Hows]int
	for picks := range picksOf(some, 5) {
		op := []int{api.OpNotify, api.OpAll}[picks[0].Thread%2]
		g := ground.New(mapOf(4, 1, 1), nil, nil)
		x := newMatch(t, g, spot{}, [][]api.Call{
			calls(0, api.OpEnter, api.OpWait, api.OpExit),
			calls(0, api.OpEnter, api.OpEnter, api.OpTimed, api.OpExit, api.OpExit),
			calls(0, api.OpEnter, op, api.OpExit),
			calls(0, api.OpInterrupt),
		})
		x.till(0, 2)
		x.till(1, 3)
		if picks[1].Thread == 2 {
			x.till(2, 1)
		}
		x.pickSome(picks)
		x.finish(400)
		for how, n := range x.hows {
			hows[how] += n
		}
	}
	for how, n := range hows {
		if n < 500 {
			t.Errorf("%d waits ended by %d: %v", n, how, hows)
		}
	}
}

// someCalls are calls of a thread, some of which are refused; at its end it is in no object.
func someCalls(next func(n int) int, o, threads int) []api.Call {
	ops := []int{
		api.OpEnter, api.OpEnter, api.OpEnter, api.OpExit, api.OpExit, api.OpWait, api.OpTimed, api.OpWait, api.OpTimed,
		api.OpNotify, api.OpNotify, api.OpAll, api.OpInterrupt, api.OpHolds,
	}
	var l []api.Call
	depth := 0
	for range 1 + next(12) {
		c := api.Call{Op: ops[next(len(ops))], Obj: o, Arg: next(threads)}
		switch {
		case c.Op == api.OpEnter:
			depth++
		case c.Op == api.OpExit && depth > 0:
			depth--
		}
		l = append(l, c)
	}
	for ; depth > 0; depth-- {
		l = append(l, api.Call{Op: api.OpExit, Obj: o})
	}
	return l
}

// wantResults tests that each call's result is one that it may have when its thread is as deep as the calls ahead of it say; it returns how many were refused.
func (x *match) wantResults(lists [][]api.Call) int {
	x.Helper()
	refusals := 0
	for u, l := range lists {
		values := x.m.Values(u)
		depth := 0
		for i, c := range l {
			want := []int{ok}
			switch {
			case c.Op == api.OpEnter:
				depth++
			case c.Op == api.OpHolds:
				want = []int{min(1, depth)}
			case c.Op == api.OpInterrupt:
			case depth == 0:
				want = []int{refused}
				refusals++
			case c.Op == api.OpExit:
				depth--
			case c.Op == api.OpWait:
				want = []int{api.HowNotified, api.HowInterrupted, api.HowSpurious}
			case c.Op == api.OpTimed:
				want = []int{api.HowNotified, api.HowInterrupted, api.HowSpurious, api.HowTimed}
			}
			if !slices.Contains(want, values[i]) {
				x.Fatalf("the call %d of the thread %d has the value %d, want %v; it has %v", i, u, values[i], want, l)
			}
		}
	}
	return refusals
}

// P16.4, P16.5: any calls of any threads, in any order, with picks of all kinds.
func TestAnyCallsInAnyOrder(t *testing.T) {
	t.Parallel()
	var hows [api.Hows]int
	var acts [api.Acts]int
	longest, refusals, early := 0, 0, 0
	for seed := range 400 {
		next := mixer(uint64(seed))
		g := kinds[seed%2].make(mapOf(1+next(6), 1+next(3), 1+next(3)), nil, nil)
		at := spot{next(g.Objects), next(g.Monitors), next(3)}
		lists := make([][]api.Call, g.Threads)
		for u := range lists {
			lists[u] = someCalls(next, at.o, g.Threads)
		}
		x := newMatch(t, g, at, lists)
		for range next(600) {
			// Some threads are picked several times in a row.
			p := api.Pick{Thread: next(g.Threads+2) - 1, Kind: max(0, next(20)-17)}
			for range 1 + next(12)*next(2) {
				x.pick(p)
			}
			longest = max(longest, len(queue.Look(g.Cells, g.Map, g.Wait(at.n))))
		}
		x.finish(20000)
		refusals += x.wantResults(lists)
		for how, n := range x.hows {
			hows[how] += n
		}
		for act, n := range x.acts {
			acts[act] += n
		}
		early += x.early
	}
	for how, n := range hows {
		if n < 60 {
			t.Errorf("%d waits ended by %d: %v", n, how, hows)
		}
	}
	if longest < 3 || refusals < 200 || early < 20 || acts[api.ActNotify] < 200 {
		t.Errorf("at most %d threads waited at a time; %d calls were refused, %d waits interrupted early; acts %v", longest, refusals, early, acts)
	}
}

// done is the task of a call of the thread t.
func done(g *ground.Ground, t int, at spot, c api.Call) *task.Task {
	switch c.Op {
	case api.OpEnter:
		return fat.Enter(g, t, at.o, at.n, at.gen)
	case api.OpExit:
		return fat.Exit(g, t, at.o, at.n, at.gen)
	case api.OpInterrupt:
		return wake.Interrupt(g, t, at.o, c.Arg)
	case api.OpNotify, api.OpAll:
		return await.Notify(g, t, at.o, at.n, at.gen, c.Op == api.OpAll)
	}
	return await.Wait(g, t, at.o, at.n, at.gen, c.Op == api.OpTimed)
}

// caller is a thread that does calls at a monitor, as a goroutine.
type caller struct {
	g  *ground.Ground
	u  int
	at spot
	i  int
}

// do does a call as Noted does, with all of its steps, and returns its value.
func (c *caller) do(op, arg int) int {
	call := api.Call{Op: op, Obj: c.at.o, Arg: arg}
	c.g.Call(c.u, c.i, call)
	task.Run(c.g.Begin(c.u))
	v := task.Run(done(c.g, c.u, c.at, call))
	task.Run(c.g.End(c.u))
	c.g.Return(c.u, c.i, api.Unpacked(v))
	c.i++
	return v
}

// wantAccepted tests that the automaton accepts the log, and that nobody is left at the monitor.
func wantAccepted(t *testing.T, g *ground.Ground, at spot) {
	t.Helper()
	l := g.Events()
	if i := spec.Check(g.Threads, g.Objects, l); i >= 0 {
		t.Errorf("the automaton does not accept the event %d, %v", i, l[max(0, i-10):i+1])
	}
	if v := g.View(at.o); v.Owner != -1 || v.Depth != 0 || len(v.Waiting) != 0 {
		t.Errorf("View = %v", v)
	}
}

// P16.4, P16.5: goroutines that hand things on by a store with one place; who finds it empty, or full, waits, and a notification that is lost would keep all waiting for ever.
func TestGoroutinesThatHandOn(t *testing.T) {
	const pairs, things = 3, 120
	g := ground.Real(mapOf(2*pairs, 2, 2), nil, nil)
	at := spot{1, 1, 2}
	fatten(g, at)
	full, sum := 0, 0
	var all sync.WaitGroup
	for u := range 2 * pairs {
		all.Go(func() {
			c := &caller{g: g, u: u, at: at}
			for n := range things {
				c.do(api.OpEnter, 0)
				for (full == 0) == (u%2 == 0) {
					if v := c.do(api.OpWait, 0); v != api.HowNotified {
						t.Errorf("Wait of %d: %d", u, v)
					}
				}
				if full > 0 {
					sum += full
					full = 0
				} else {
					full = n + 1
				}
				c.do(api.OpAll, 0)
				c.do(api.OpExit, 0)
			}
		})
	}
	all.Wait()
	if want := pairs * things * (things + 1) / 2; sum != want || full != 0 {
		t.Errorf("the sum is %d, want %d", sum, want)
	}
	wantAccepted(t, g, at)
}

// P16.4, P16.5: goroutines that wait, two deep, with a time or without; one that interrupts them, if they are not yet, and notifies them at times.
func TestGoroutinesThatAreDisturbed(t *testing.T) {
	const waiters, rounds = 3, 100
	g := ground.Real(mapOf(waiters+1, 2, 1), nil, nil)
	at := spot{1, 0, 2}
	fatten(g, at)
	count := 0
	var ended atomic.Int64
	var all sync.WaitGroup
	for u := range waiters {
		all.Go(func() {
			defer ended.Add(1)
			c := &caller{g: g, u: u, at: at}
			for i := range rounds {
				c.do(api.OpEnter, 0)
				c.do(api.OpEnter, 0)
				if v := c.do([]int{api.OpWait, api.OpTimed}[min(1, i%3)], 0); v == api.HowSpurious || v >= api.Hows {
					t.Errorf("the wait %d of %d: %d", i, u, v)
				}
				count++
				if a, b := c.do(api.OpExit, 0), c.do(api.OpExit, 0); a != ok || b != ok {
					t.Errorf("Exit of %d: %d %d", u, a, b)
				}
			}
		})
	}
	all.Go(func() { disturb(&caller{g: g, u: waiters, at: at}, &ended) })
	all.Wait()
	if count != waiters*rounds {
		t.Errorf("the count is %d, want %d", count, waiters*rounds)
	}
	wantAccepted(t, g, at)
}

// disturb interrupts the threads below its own, and notifies them, until all of them have ended. A thread whose flag is up is left alone: of two goroutines that change a flag at the same time, no log could tell which one came first.
func disturb(c *caller, ended *atomic.Int64) {
	for n := 0; ended.Load() < int64(c.u); n++ {
		if v := n % c.u; c.g.Cells.Load(c.g.Flag(v)) == 0 {
			c.do(api.OpInterrupt, v)
		}
		if n%50 == 0 && c.i < 1000 {
			c.do(api.OpEnter, 0)
			c.do([]int{api.OpNotify, api.OpAll}[n/50%2], 0)
			c.do(api.OpExit, 0)
		}
		runtime.Gosched()
	}
}
