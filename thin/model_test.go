package thin_test

import (
	"iter"
	"runtime"
	"slices"
	"sync"
	"testing"

	"doorkeeper/api"
	"doorkeeper/cells"
	"doorkeeper/fat"
	"doorkeeper/ground"
	"doorkeeper/machine"
	"doorkeeper/spec"
	"doorkeeper/task"
	"doorkeeper/thin"
)

// mixer makes numbers with mixed bits, the same ones in each run.
func mixer(state uint64) func(n int) int {
	return func(n int) int {
		state += 0x9e3779b97f4a7c15
		z := (state ^ state>>30) * 0xbf58476d1ce4e5b9
		z = (z ^ z>>27) * 0x94d049bb133111eb
		return int((z ^ z>>31) % uint64(n))
	}
}

// schedules yields all lists of so many picks of so many threads.
func schedules(threads, picks int) iter.Seq[[]int] {
	return func(yield func([]int) bool) {
		l := make([]int, picks)
		for {
			if !yield(l) {
				return
			}
			i := 0
			for i < picks && l[i] == threads-1 {
				l[i] = 0
				i++
			}
			if i == picks {
				return
			}
			l[i]++
		}
	}
}

// calls are calls of an object.
func calls(o int, ops ...int) []api.Call {
	var l []api.Call
	for _, op := range ops {
		l = append(l, api.Call{Op: op, Obj: o})
	}
	return l
}

// of is the task of a call of the thread t.
func of(g *ground.Ground, t int, c api.Call) *task.Task {
	switch c.Op {
	case api.OpEnter:
		return thin.Enter(g, t, c.Obj)
	case api.OpExit:
		return thin.Exit(g, t, c.Obj)
	}
	return thin.Holds(g, t, c.Obj)
}

// match compares threads, whose calls are thin, with the automaton, after each pick. A call that is stale is done again, and one that is too deep is refused.
type match struct {
	*testing.T
	g      *ground.Ground
	m      *machine.Machine
	s      *spec.Spec
	b      *ledger
	hashes []int
	taken  int
	// How often each object's word was changed, and how often it had been when each thread loaded it last; and how many Swaps failed.
	changed, loaded map[int]int
	failed          int
	// How many calls were done again, and how many were too deep.
	again, deep int
}

// newMatch has objects with these hashes, which nobody owns.
func newMatch(t *testing.T, g *ground.Ground, hashes []int, lists [][]api.Call) *match {
	x := &match{T: t, g: g, hashes: hashes, s: spec.New(g.Threads, g.Objects), b: &ledger{cells: g.Cells.All()}}
	x.changed, x.loaded = map[int]int{}, map[int]int{}
	g.Cells = cells.Over(x.b)
	x.m = fat.Noted(g, lists, x.call)
	x.compare()
	return x
}

// call is the task of a call, done again as long as it is stale.
func (x *match) call(t int, c api.Call) *task.Task {
	return task.Loop(func() *task.Task {
		return task.Then(of(x.g, t, c), func(r int) *task.Task {
			switch r {
			case stale:
				x.again++
				return task.Ready(task.Again)
			case tooDeep:
				x.deep++
				x.g.Act(t, api.ActRefuse, c.Obj, int(api.ErrDepth))
			}
			return task.Ready(r)
		})
	})
}

// pick makes a pick of the thread, which is one operation at most.
func (x *match) pick(u int) {
	x.Helper()
	x.b.done = nil
	before := slices.Clone(x.b.cells)
	is := x.m.Pick(api.Pick{Thread: u})
	done := x.b.done
	if len(done) > 1 || !is && len(done) > 0 {
		x.Fatalf("a pick of %d does %v", u, done)
	}
	for _, d := range done {
		x.follow(u, d, before)
	}
	x.compare()
}

// follow keeps account of words. A Swap of one fails only if another one succeeded since the thread's Load.
func (x *match) follow(u int, d operation, before []uint64) {
	x.Helper()
	if d.cell < x.g.Map.Word(0) || d.cell >= x.g.Map.Word(x.g.Objects) {
		return
	}
	switch {
	case d.form == "load":
		x.loaded[u] = x.changed[d.cell]
	case d.form != "swap":
		x.Fatalf("a word is changed by %v", d)
	case x.b.cells[d.cell] != before[d.cell]:
		x.changed[d.cell]++
	case x.changed[d.cell] == x.loaded[u]:
		x.Fatalf("%v of %d fails, though nobody changed the word", d, u)
	default:
		x.failed++
	}
}

// compare takes what was logged since the last time, and compares what is observed, and the hashes.
func (x *match) compare() {
	x.Helper()
	l := x.g.Events()
	for _, e := range l[x.taken:] {
		if !x.s.Take(e) {
			x.Fatalf("the automaton does not accept %v, of %v", e, l)
		}
	}
	x.taken = len(l)
	for o := range x.g.Objects {
		got, want := x.g.View(o), x.s.View(o)
		if got.Owner != want.Owner || got.Depth != want.Depth || len(got.Waiting) != 0 {
			x.Fatalf("View(%d) = %v, want %v, behind %v", o, got, want, l)
		}
		if h, is := x.g.Word(o); !is || h.Hash != x.hashes[o] || h.Tag != api.TagFree && h.Tag != api.TagThin {
			x.Fatalf("Word(%d) = %v, %v, behind %v", o, h, is, l)
		}
	}
}

// finish makes picks in turn until all threads are done, which must be within so many.
func (x *match) finish(most int) {
	x.Helper()
	for n := 0; !x.m.Over(); n++ {
		if n == most {
			x.Fatalf("it is not over after %d picks, behind %v", most, x.g.Events())
		}
		x.pick(n % x.m.Threads())
	}
	for o := range x.g.Objects {
		if h, _ := x.g.Word(o); h.Tag != api.TagFree {
			x.Fatalf("at the end, Word(%d) = %v", o, h)
		}
	}
}

// wantResults tests that each call's value is the one that it has when its thread is alone, and returns how many were refused.
func (x *match) wantResults(lists [][]api.Call) int {
	x.Helper()
	refusals := 0
	for u, l := range lists {
		depths := map[int]int{}
		var want []int
		for _, c := range l {
			v := ok
			switch depth := depths[c.Obj]; {
			case c.Op == api.OpEnter && depth == 255:
				v = tooDeep
			case c.Op == api.OpEnter:
				depths[c.Obj]++
			case c.Op == api.OpHolds:
				v = min(depth, 1)
			case depth > 0:
				depths[c.Obj]--
			default:
				v = refused
				refusals++
			}
			want = append(want, v)
		}
		if got := x.m.Values(u); !slices.Equal(got, want) {
			x.Fatalf("Values(%d) = %v, want %v of %v", u, got, want, l)
		}
	}
	return refusals
}

// P17.4: two threads that enter, twice, and leave, for all lists of 10 picks, from different times on.
func TestTwoThreadsInAllOrders(t *testing.T) {
	t.Parallel()
	lists := [][]api.Call{
		calls(0, api.OpEnter, api.OpEnter, api.OpExit, api.OpHolds, api.OpExit),
		calls(0, api.OpExit, api.OpEnter, api.OpExit, api.OpEnter, api.OpExit),
	}
	failed, again := 0, 0
	for picks := range schedules(2, 10) {
		for _, ahead := range [][]int{nil, {1, 1, 1}, {0, 1, 1, 1, 1, 1}} {
			x := newMatch(t, ground.New(mapOf(2, 1, 0), []int{9}, nil), []int{9}, lists)
			for _, u := range slices.Concat(ahead, picks) {
				x.pick(u)
			}
			x.finish(200)
			x.wantResults(lists)
			failed, again = failed+x.failed, again+x.again
		}
	}
	if failed < 500 || again < 2000 {
		t.Errorf("%d Swaps failed, and %d calls were done again", failed, again)
	}
}

// P17.4: three threads, for all lists of 7 picks, when all have begun their first calls.
func TestThreeThreadsInAllOrders(t *testing.T) {
	t.Parallel()
	in := calls(0, api.OpEnter, api.OpExit, api.OpExit)
	lists := [][]api.Call{in, in, in}
	failed, again := 0, 0
	for picks := range schedules(3, 7) {
		x := newMatch(t, ground.New(mapOf(3, 1, 0), []int{api.MaxHash}, nil), []int{api.MaxHash}, lists)
		for _, u := range slices.Concat([]int{0, 1, 2}, picks) {
			x.pick(u)
		}
		x.finish(300)
		x.wantResults(lists)
		failed, again = failed+x.failed, again+x.again
	}
	if failed < 1000 || again < 2000 {
		t.Errorf("%d Swaps failed, and %d calls were done again", failed, again)
	}
}

// someCalls are calls of a thread on some objects, some of which are refused; it enters objects in rising order, so that all threads can go on, and at its end it is in none. If it goes deep, it enters some as often as a word can count, or about so.
func someCalls(next func(n int) int, objects int, deep bool) []api.Call {
	var l []api.Call
	depths := make([]int, objects)
	top := 0
	for range 1 + next(14) {
		c := api.Call{Op: []int{api.OpEnter, api.OpExit, api.OpHolds, api.OpEnter, api.OpExit}[next(5)], Obj: next(objects), Arg: next(3)}
		times := 1
		switch {
		case c.Op == api.OpEnter:
			c.Obj = max(c.Obj, top)
			top = c.Obj
			if deep && next(4) == 0 {
				times = 250 + next(10)
			}
			depths[c.Obj] = min(255, depths[c.Obj]+times)
		case c.Op == api.OpExit && depths[c.Obj] > 0:
			depths[c.Obj]--
		}
		l = append(l, slices.Repeat([]api.Call{c}, times)...)
		for top > 0 && depths[top] == 0 {
			top--
		}
	}
	for o, depth := range depths {
		l = append(l, slices.Repeat(calls(o, api.OpExit), depth)...)
	}
	return l
}

// P17.4: any calls of any threads, in any order.
func TestAnyCallsInAnyOrder(t *testing.T) {
	t.Parallel()
	failed, again, deep, refusals := 0, 0, 0, 0
	for seed := range 300 {
		next := mixer(uint64(seed))
		hashes := []int{next(api.MaxHash + 1), next(api.MaxHash + 1), next(api.MaxHash + 1)}
		m := mapOf(1+next(6), 1+next(3), next(2))
		lists := make([][]api.Call, m.Threads)
		for u := range lists {
			lists[u] = someCalls(next, m.Objects, seed%30 == 0 && u == 0)
		}
		x := newMatch(t, kinds[seed%2].make(m, hashes, nil), hashes, lists)
		for range next(400) {
			// Some threads are picked several times in a row.
			u := next(m.Threads+2) - 1
			for range 1 + next(8)*next(2) {
				x.pick(u)
			}
		}
		x.finish(60000)
		refusals += x.wantResults(lists)
		failed, again, deep = failed+x.failed, again+x.again, deep+x.deep
	}
	if failed < 100 || again < 1000 || deep < 50 || refusals < 300 {
		t.Errorf("%d Swaps failed, %d calls were done again, %d were too deep, %d refused", failed, again, deep, refusals)
	}
}

// P17.4: a thread that finds the word of another one is stale as long as that one is in, however deep, and goes on when that one has left.
func TestAThreadGoesOnWhenTheOwnerHasLeft(t *testing.T) {
	for _, k := range kinds {
		for _, depth := range counts {
			g := k.make(few, []int{1, 2, 3}, nil)
			for range depth {
				task.Run(thin.Enter(g, 3, 2))
			}
			for range depth {
				if v := task.Run(thin.Enter(g, 0, 2)); v != stale {
					t.Fatalf("%s: Enter is %d", k.name, v)
				}
				if v := task.Run(thin.Exit(g, 3, 2)); v != ok {
					t.Fatalf("%s: Exit is %d", k.name, v)
				}
			}
			if v := task.Run(thin.Enter(g, 0, 2)); v != ok || g.View(2).Owner != 0 || g.View(2).Depth != 1 {
				t.Fatalf("%s: Enter is %d, and View %v", k.name, v, g.View(2))
			}
		}
	}
}

// P17.4: goroutines that enter two objects, and change what nothing else protects; each one's acts are logged in its order.
func TestGoroutines(t *testing.T) {
	t.Parallel()
	const rounds = 300
	g := ground.Real(mapOf(4, 2, 0), []int{7, 8}, nil)
	var sums [2]int
	var all sync.WaitGroup
	for u := range g.Threads {
		all.Go(func() {
			for n := range rounds {
				o := (n + u) % 2
				for range 2 {
					for task.Run(thin.Enter(g, u, o)) != ok {
						runtime.Gosched()
					}
				}
				sums[o]++
				look, other := task.Run(thin.Holds(g, u, o)), task.Run(thin.Exit(g, u, 1-o))
				if a, b := task.Run(thin.Exit(g, u, o)), task.Run(thin.Exit(g, u, o)); look != held || other != refused || a != ok || b != ok {
					t.Errorf("the thread %d: %d %d %d %d", u, look, other, a, b)
				}
			}
		})
	}
	all.Wait()
	if want := g.Threads * rounds / 2; sums != [2]int{want, want} {
		t.Errorf("the sums are %v, want %d", sums, want)
	}
	for o := range sums {
		if h, is := g.Word(o); !is || h != (api.Header{Tag: api.TagFree, Hash: 7 + o}) {
			t.Errorf("Word(%d) = %v, %v", o, h, is)
		}
	}
	wantOwnOrder(t, g, rounds)
}

// wantOwnOrder tests that each thread's acts are those of so many rounds of TestGoroutines.
func wantOwnOrder(t *testing.T, g *ground.Ground, rounds int) {
	t.Helper()
	logs := make([][]api.Event, g.Threads)
	for _, e := range g.Events() {
		logs[e.Thread] = append(logs[e.Thread], e)
	}
	for u, l := range logs {
		var want []api.Event
		for n := range rounds {
			o := (n + u) % 2
			for _, a := range [][3]int{{api.ActEnter, o}, {api.ActEnter, o}, {api.ActLook, o, 1}, {api.ActRefuse, 1 - o, 4}, {api.ActExit, o}, {api.ActExit, o}} {
				want = append(want, api.Event{Kind: api.EvAct, Thread: u, Act: a[0], Obj: a[1], Other: a[2]})
			}
		}
		if !slices.Equal(l, want) {
			t.Errorf("the thread %d logs %d acts, which are not the %d of its calls in order", u, len(l), len(want))
		}
	}
}
