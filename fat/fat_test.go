package fat_test

import (
	"math"
	"slices"
	"testing"

	"doorkeeper/api"
	"doorkeeper/cells"
	"doorkeeper/fat"
	"doorkeeper/ground"
	"doorkeeper/queue"
	"doorkeeper/task"
	"doorkeeper/word"
)

// kinds are the two ways to make a ground.
var kinds = []struct {
	name string
	make func(m api.Map, hashes []int, fresh []bool) *ground.Ground
}{
	{"New", ground.New},
	{"Real", ground.Real},
}

// stepKinds are kinds of steps; by all but PickStep a task that is not parked takes none.
var stepKinds = []int{api.PickStep, api.PickTime, api.PickSpurious, -1, 3, 1 << 32, math.MinInt, math.MaxInt}

// The results of calls, as numbers.
var (
	ok       = api.Packed(api.Result{})
	argument = api.Packed(api.Result{Code: api.ErrArg})
	owner    = api.Packed(api.Result{Code: api.ErrOwner})
	tooDeep  = api.Packed(api.Result{Code: api.ErrDepth})
	stale    = api.Packed(api.Result{Code: api.ErrStale})
)

// mapOf is the map of so many threads, objects and monitors.
func mapOf(threads, objects, monitors int) api.Map {
	return api.Map{Threads: threads, Objects: objects, Monitors: monitors}
}

// spot is a monitor, its generation, and its object.
type spot struct{ o, n, gen int }

// few is a map of a few of all; here is a monitor in it, none of whose numbers is that of another one.
var (
	few  = mapOf(4, 3, 3)
	here = spot{1, 2, 5}
)

// fatten makes the spot's monitor that of the spot's object.
func fatten(g *ground.Ground, at spot) {
	w, _ := word.Pack(api.Header{Tag: api.TagFat, Mon: at.n, Gen: at.gen})
	g.Cells.Store(g.Map.Word(at.o), w)
	g.Cells.Store(g.Gen(at.n), uint64(at.gen))
}

// operation is what was done to which cell, with which numbers.
type operation struct {
	form     string
	cell     int
	old, new uint64
}

func load(i int) operation { return operation{"load", i, 0, 0} }

func store(i int, v uint64) operation { return operation{"store", i, 0, v} }

func swap(i int, old, new uint64) operation { return operation{"swap", i, old, new} }

// ledger stores cells, and records the operations on them; reading all cells counts as one on each. Ahead of a store, it calls watch, if there is one.
type ledger struct {
	cells []uint64
	done  []operation
	watch func(i int, v uint64)
}

func (b *ledger) Len() int { return len(b.cells) }

func (b *ledger) Load(i int) uint64 {
	b.done = append(b.done, load(i))
	return b.cells[i]
}

func (b *ledger) Store(i int, v uint64) {
	if b.watch != nil {
		b.watch(i, v)
	}
	b.done = append(b.done, store(i, v))
	b.cells[i] = v
}

func (b *ledger) Swap(i int, old, new uint64) bool {
	b.done = append(b.done, swap(i, old, new))
	if b.cells[i] != old {
		return false
	}
	b.cells[i] = new
	return true
}

func (b *ledger) Add(i int, d uint64) uint64 {
	b.done = append(b.done, operation{"add", i, 0, d})
	b.cells[i] += d
	return b.cells[i]
}

// scene is a ground in which what tasks do is recorded, with a monitor for the tests.
type scene struct {
	*testing.T
	*ground.Ground
	spot
	b *ledger
}

// newScene has the monitor here, which nobody owns.
func newScene(t *testing.T) *scene {
	g := ground.New(few, nil, nil)
	fatten(g, here)
	x := &scene{t, g, here, &ledger{cells: g.Cells.All()}}
	g.Cells = cells.Over(x.b)
	return x
}

// owned makes the thread the owner of the monitor, so deep.
func (x *scene) owned(u, depth int) *scene {
	x.b.cells[x.Hold(x.n)] = api.HoldOf(u, depth)
	return x
}

// entering puts threads into the monitor's entry queue, and a number into the Saved cell of each.
func (x *scene) entering(saved map[int]int, threads ...int) *scene {
	for _, u := range threads {
		task.Run(queue.Push(x.Cells, x.Map, x.Entry(x.n), u))
		x.b.cells[x.State(u)] = api.StateOf(api.StateEntering, x.n)
		x.b.cells[x.Saved(u)] = uint64(saved[u])
	}
	return x
}

// The tasks at the scene's monitor.
func (x *scene) enter(u int) *task.Task { return fat.Enter(x.Ground, u, x.o, x.n, x.gen) }
func (x *scene) exit(u int) *task.Task  { return fat.Exit(x.Ground, u, x.o, x.n, x.gen) }
func (x *scene) holds(u int) *task.Task { return fat.Holds(x.Ground, u, x.o, x.n, x.gen) }

// The operations by which u takes and drops the latch, and finds out the generation and the owner.
func (x *scene) takes(u int) operation { return swap(x.Latch(x.n), 0, uint64(u)+1) }
func (x *scene) drops(u int) operation { return swap(x.Latch(x.n), uint64(u)+1, 0) }
func (x *scene) looks() operation      { return load(x.Gen(x.n)) }
func (x *scene) asks() operation       { return load(x.Hold(x.n)) }

// becomes is the operation by which u becomes the owner.
func (x *scene) becomes(u, depth int) operation {
	return store(x.Hold(x.n), api.HoldOf(u, depth))
}

// act is an act on the scene's object.
func (x *scene) act(u, act, other int) api.Event {
	return api.Event{Kind: api.EvAct, Thread: u, Act: act, Obj: x.o, Other: other}
}

// wantStep takes a step of the task by PickStep: it is this operation, and logs these acts. No other kind of step can be taken.
func (x *scene) wantStep(a *task.Task, want operation, acts ...api.Event) {
	x.Helper()
	for _, kind := range stepKinds[1:] {
		if a.Can(kind) || a.Step(kind) {
			x.Fatalf("a step of the kind %d", kind)
		}
	}
	log, steps := len(x.Events()), x.Cells.Steps()
	x.b.done = nil
	if a.Parked() || a.Value() != 0 || !a.Can(api.PickStep) || !a.Step(api.PickStep) {
		x.Fatalf("no step; Done = %v, Parked = %v, Value = %d, want %v", a.Done(), a.Parked(), a.Value(), want)
	}
	if done := x.b.done; !slices.Equal(done, []operation{want}) || x.Cells.Steps() != steps+1 {
		x.Fatalf("the step does %v, want %v", done, want)
	}
	if got := x.Events()[log:]; !slices.Equal(got, acts) {
		x.Fatalf("the step logs %v, want %v", got, acts)
	}
}

// wantSteps takes steps that log nothing.
func (x *scene) wantSteps(a *task.Task, want ...operation) {
	x.Helper()
	for _, o := range want {
		x.wantStep(a, o)
	}
}

// wantParked tests that the task is parked, for the thread's permit and not for a time.
func (x *scene) wantParked(a *task.Task, u int) {
	x.Helper()
	if !a.Parked() || a.Done() || a.Can(api.PickTime) || a.Can(api.PickStep) != x.Permits.Has(u) || !a.Can(api.PickSpurious) {
		x.Fatalf("Parked = %v, Done = %v", a.Parked(), a.Done())
	}
}

// wantNoOperation takes a step of this kind, which is no operation, and logs nothing.
func (x *scene) wantNoOperation(a *task.Task, kind int) {
	x.Helper()
	log := len(x.Events())
	x.b.done = nil
	if !a.Step(kind) || len(x.b.done) > 0 || len(x.Events()) != log {
		x.Fatalf("the step does %v, or there is none", x.b.done)
	}
}

// wantDone tests that the task is done, with this value, and takes no steps any more.
func (x *scene) wantDone(a *task.Task, value int) {
	x.Helper()
	if !a.Done() || a.Parked() || a.Value() != value {
		x.Fatalf("Done = %v, Parked = %v, Value = %d, want the value %d", a.Done(), a.Parked(), a.Value(), value)
	}
	for _, kind := range stepKinds {
		if a.Step(kind) {
			x.Fatalf("a step of the kind %d", kind)
		}
	}
}

// wantSame tests that the cells contain what they did, but for these, by their numbers; and that nobody has got a permit.
func (x *scene) wantSame(before []uint64, but map[int]uint64) {
	x.Helper()
	want := slices.Clone(before)
	for i, v := range but {
		want[i] = v
	}
	if !slices.Equal(x.b.cells, want) {
		x.Fatalf("cells %v, want %v", x.b.cells, want)
	}
	for u := range x.Threads {
		if x.Permits.Has(u) {
			x.Fatalf("the thread %d has a permit", u)
		}
	}
}

// wantView tests what is observed of the scene's object, and that of all others nothing is.
func (x *scene) wantView(owner, depth int, waiting ...int) {
	x.Helper()
	for o := range x.Objects {
		want := api.View{Owner: -1}
		if o == x.o {
			want = api.View{Owner: owner, Depth: depth, Waiting: waiting}
		}
		if v := x.View(o); v.Owner != want.Owner || v.Depth != want.Depth || !slices.Equal(v.Waiting, want.Waiting) {
			x.Fatalf("View(%d) = %v, want %v", o, v, want)
		}
	}
}

// The chapter's examples.
func TestExamples(t *testing.T) {
	for _, k := range kinds {
		at := spot{}
		g := k.make(mapOf(2, 1, 1), nil, nil)
		fatten(g, at)
		enter := func(u int) *task.Task { return fat.Enter(g, u, 0, 0, 0) }
		exit := func(u int) *task.Task { return fat.Exit(g, u, 0, 0, 0) }
		holds := func(u int) *task.Task { return fat.Holds(g, u, 0, 0, 0) }
		var got []int
		for _, a := range []*task.Task{enter(0), enter(0), exit(0), holds(0), exit(0), holds(0), exit(1)} {
			got = append(got, task.Run(a))
		}
		if want := []int{ok, ok, ok, 1, ok, 0, owner}; !slices.Equal(got, want) {
			t.Errorf("%s: results %v, want %v", k.name, got, want)
		}
		first := task.Run(enter(0))
		a := enter(1)
		for a.Step(api.PickStep) {
		}
		parked := a.Parked()
		second := task.Run(exit(0))
		if third := task.Run(a); first != ok || !parked || second != ok || third != ok {
			t.Errorf("%s: results %d, %d, %d, Parked = %v", k.name, first, second, third, parked)
		}
		if v := g.View(0); v.Owner != 1 || v.Depth != 1 {
			t.Errorf("%s: View = %v, want the owner 1", k.name, v)
		}
	}
}

// P14.1: Within

// Within is the latch, the generation, what do returns, and the latch again.
func TestWithin(t *testing.T) {
	for u := range few.Threads {
		x := newScene(t)
		before := slices.Clone(x.b.cells)
		called := 0
		a := fat.Within(x.Ground, u, x.n, x.gen, func() *task.Task {
			called++
			return task.Seq(task.Store(x.Cells, x.Spare(u), 7), task.Add(x.Cells, x.Spare(u), 3))
		})
		x.wantStep(a, x.takes(u))
		if called != 0 {
			t.Fatal("do is called ahead of its time")
		}
		x.wantStep(a, x.looks())
		if called != 1 {
			t.Fatalf("do is called %d times in the step that finds the generation", called)
		}
		x.wantSteps(a, store(x.Spare(u), 7), operation{"add", x.Spare(u), 0, 3}, x.drops(u))
		x.wantDone(a, 10)
		x.wantSame(before, map[int]uint64{x.Spare(u): 10})
	}
}

// The value is that of the task, whatever it is, also if it needs no step; without a task it is 0.
func TestValuesOfWithin(t *testing.T) {
	for _, v := range []int{0, 1, -1, 48, task.Again, math.MaxInt, math.MinInt} {
		x := newScene(t)
		a := fat.Within(x.Ground, 1, x.n, x.gen, func() *task.Task { return task.Ready(v) })
		x.wantSteps(a, x.takes(1), x.looks(), x.drops(1))
		x.wantDone(a, v)
	}
	for _, do := range []func() *task.Task{nil, func() *task.Task { return nil }} {
		x := newScene(t)
		a := fat.Within(x.Ground, 1, x.n, x.gen, do)
		x.wantSteps(a, x.takes(1), x.looks(), x.drops(1))
		x.wantDone(a, 0)
	}
}

// If the cell Gen contains another generation, nothing is done.
func TestWithinOfAnotherGeneration(t *testing.T) {
	for _, gen := range []int{0, 4, 6, -5, api.MaxGen, math.MaxInt, math.MinInt} {
		x := newScene(t)
		before := slices.Clone(x.b.cells)
		a := fat.Within(x.Ground, 1, x.n, gen, func() *task.Task {
			t.Error("do is called")
			return task.Store(x.Cells, x.Spare(1), 7)
		})
		x.wantSteps(a, x.takes(1), x.looks(), x.drops(1))
		x.wantDone(a, stale)
		x.wantSame(before, nil)
	}
}

// The generation counts that the monitor has while the latch is held, not the one of the time at which the task was made.
func TestWithinLoadsTheGeneration(t *testing.T) {
	for _, now := range []uint64{5, 6} {
		x := newScene(t)
		x.b.cells[x.Gen(x.n)] = 11 - now
		a := fat.Within(x.Ground, 1, x.n, x.gen, nil)
		x.wantStep(a, x.takes(1))
		x.b.cells[x.Gen(x.n)] = now
		x.wantSteps(a, x.looks(), x.drops(1))
		x.wantDone(a, map[uint64]int{5: 0, 6: stale}[now])
	}
}

// As long as another thread holds the latch, Within tries again.
func TestWithinWaitsForTheLatch(t *testing.T) {
	x := newScene(t)
	x.b.cells[x.Latch(x.n)] = 3
	a := fat.Within(x.Ground, 0, x.n, x.gen, nil)
	for range 5 {
		x.wantStep(a, x.takes(0))
	}
	x.b.cells[x.Latch(x.n)] = 0
	x.wantSteps(a, x.takes(0), x.looks(), x.drops(0))
	x.wantDone(a, 0)
}

// P14.1: Owned

// The owner is done at the first Load, however deep it is in the monitor.
func TestOwnedOfTheOwner(t *testing.T) {
	for u := range few.Threads {
		for _, depth := range []int{1, 2, api.MaxDepth} {
			x := newScene(t).owned(u, depth)
			before := slices.Clone(x.b.cells)
			a := fat.Owned(x.Ground, u, x.n)
			x.wantStep(a, x.asks())
			x.wantDone(a, 0)
			x.wantSame(before, nil)
		}
	}
}

// Any other thread sleeps, and loads again, however its sleep ends; it may be the owner of another monitor.
func TestOwnedOfOthers(t *testing.T) {
	for _, other := range []int{-1, 0, 3} {
		x := newScene(t).owned(other, 2)
		x.b.cells[x.Hold(0)] = api.HoldOf(1, 1)
		x.b.cells[x.Safe(1)] = api.SafeRunning
		before := slices.Clone(x.b.cells)
		a := fat.Owned(x.Ground, 1, x.n)
		for _, kind := range []int{api.PickStep, api.PickSpurious, api.PickStep, api.PickSpurious} {
			x.wantSteps(a, x.asks(), store(x.Safe(1), api.SafeOut))
			x.wantParked(a, 1)
			if kind == api.PickStep {
				x.Permits.Give(1)
				x.wantParked(a, 1)
			}
			x.wantNoOperation(a, kind)
			x.wantStep(a, swap(x.Safe(1), api.SafeOut, api.SafeRunning))
			x.wantSame(before, nil)
		}
		x.owned(1, 4)
		x.wantStep(a, x.asks())
		x.wantDone(a, 0)
	}
}

// A permit that is left over ends one sleep, not the waiting.
func TestOwnedWithAPermit(t *testing.T) {
	x := newScene(t).owned(0, 1)
	x.Permits.Give(1)
	a := fat.Owned(x.Ground, 1, x.n)
	x.wantSteps(a, x.asks(), store(x.Safe(1), api.SafeOut))
	x.wantNoOperation(a, api.PickStep)
	x.wantSteps(a, swap(x.Safe(1), api.SafeOut, api.SafeRunning), x.asks(), store(x.Safe(1), api.SafeOut))
	x.wantParked(a, 1)
	if a.Step(api.PickStep) || a.Step(api.PickTime) {
		t.Fatal("a step of a thread that is parked without a permit")
	}
}

// A thread that somebody holds when it wakes does not go on till it is let go.
func TestOwnedOfAThreadThatIsHeld(t *testing.T) {
	x := newScene(t).owned(0, 1)
	a := fat.Owned(x.Ground, 1, x.n)
	x.wantSteps(a, x.asks(), store(x.Safe(1), api.SafeOut))
	x.Permits.Give(1)
	x.b.cells[x.Safe(1)] = api.SafeHeld
	x.wantNoOperation(a, api.PickStep)
	begin := swap(x.Safe(1), api.SafeOut, api.SafeRunning)
	x.wantSteps(a, begin, begin)
	x.b.cells[x.Safe(1)] = api.SafeOut
	x.owned(1, 1)
	x.wantSteps(a, begin, x.asks())
	x.wantDone(a, 0)
}

// P14.1: Pass

// Pass is a step without an operation, after which the thread has a permit; of no thread it is none.
func TestPass(t *testing.T) {
	for u := range few.Threads {
		x := newScene(t)
		for range 2 {
			a := fat.Pass(x.Ground, u)
			if a.Done() || a.Parked() || x.Permits.Has(u) {
				t.Fatalf("Done = %v, Parked = %v, or a permit ahead of the step", a.Done(), a.Parked())
			}
			x.wantNoOperation(a, api.PickStep)
			x.wantDone(a, 0)
			for v := range few.Threads {
				if x.Permits.Take(v) != (v == u) {
					t.Fatalf("a permit of the thread %d, want %d", v, u)
				}
			}
		}
	}
	for _, u := range []int{-1, -2, math.MinInt} {
		x := newScene(t)
		before := slices.Clone(x.b.cells)
		x.wantDone(fat.Pass(x.Ground, u), 0)
		x.wantSame(before, nil)
	}
}

// A thread that does not exist gets no permit, and neither does anybody else.
func TestPassOfNoThread(t *testing.T) {
	for _, u := range []int{few.Threads, api.MaxThreads, math.MaxInt} {
		x := newScene(t)
		before := slices.Clone(x.b.cells)
		a := fat.Pass(x.Ground, u)
		x.wantNoOperation(a, api.PickStep)
		x.wantDone(a, 0)
		x.wantSame(before, nil)
	}
}

// Wrong numbers

// notThere are numbers of nothing, for a map of n.
func notThere(n int) []int {
	return []int{-1, -2, n, n + 1, 1 << 20, math.MaxInt, math.MinInt}
}

// With a thread, an object or a monitor that does not exist, nothing is done, at once.
func TestWrongNumbers(t *testing.T) {
	try := func(u, o, n int) {
		t.Helper()
		x := newScene(t).owned(1, 2).entering(nil, 3)
		before := slices.Clone(x.b.cells)
		for _, f := range []func(g *ground.Ground, t, o, n, gen int) *task.Task{fat.Enter, fat.Exit, fat.Holds} {
			x.wantDone(f(x.Ground, u, o, n, x.gen), argument)
		}
		x.wantDone(fat.Give(x.Ground, u, o, n, api.ActExit), -1)
		if o == x.o {
			x.wantDone(fat.Owned(x.Ground, u, n), argument)
			x.wantDone(fat.Within(x.Ground, u, n, x.gen, func() *task.Task {
				t.Error("do is called")
				return nil
			}), argument)
		}
		x.wantSame(before, nil)
		if l := x.Events(); len(l) > 0 {
			t.Fatalf("the log is %v", l)
		}
	}
	for _, u := range notThere(few.Threads) {
		try(u, here.o, here.n)
	}
	for _, o := range notThere(few.Objects) {
		try(1, o, here.n)
	}
	for _, n := range notThere(few.Monitors) {
		try(1, here.o, n)
	}
}

// Without a ground nothing is promised, but that nothing panics.
func TestNoGround(t *testing.T) {
	for _, a := range []*task.Task{
		fat.Enter(nil, 0, 0, 0, 0), fat.Exit(nil, 0, 0, 0, 0), fat.Holds(nil, 0, 0, 0, 0), fat.Give(nil, 0, 0, 0, 0),
		fat.Owned(nil, 0, 0), fat.Pass(nil, 0), fat.Within(nil, 0, 0, 0, nil),
	} {
		if !a.Done() {
			t.Error("a task that is not done")
		}
	}
}
