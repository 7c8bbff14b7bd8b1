package await_test

import (
	"math"
	"slices"
	"testing"

	"doorkeeper/api"
	"doorkeeper/await"
	"doorkeeper/cells"
	"doorkeeper/fat"
	"doorkeeper/ground"
	"doorkeeper/queue"
	"doorkeeper/task"
	"doorkeeper/wake"
	"doorkeeper/word"
)

// kinds are the two ways to make a ground.
var kinds = []struct {
	name string
	make func(m api.Map, hashes []int, fresh []bool) *ground.Ground
}{
	{"New", ground.New},
	{"Real", ground.Real},
}

// stepKinds are kinds of steps; by all but PickStep a task that is not parked takes none.
var stepKinds = []int{api.PickStep, api.PickTime, api.PickSpurious, -1, 3, 1 << 32, math.MinInt, math.MaxInt}

// The results of calls, as numbers; those of waits that are OK are the ways in which they ended.
var (
	ok       = api.Packed(api.Result{})
	argument = api.Packed(api.Result{Code: api.ErrArg})
	refused  = api.Packed(api.Result{Code: api.ErrOwner})
	stale    = api.Packed(api.Result{Code: api.ErrStale})
)

// mapOf is the map of so many threads, objects and monitors.
func mapOf(threads, objects, monitors int) api.Map {
	return api.Map{Threads: threads, Objects: objects, Monitors: monitors}
}

// spot is a monitor, its generation, and its object.
type spot struct{ o, n, gen int }

// few is a map of a few of all; here is a monitor in it, none of whose numbers is that of another one.
var (
	few  = mapOf(5, 3, 3)
	here = spot{1, 2, 5}
)

// fatten makes the spot's monitor that of the spot's object.
func fatten(g *ground.Ground, at spot) {
	w, _ := word.Pack(api.Header{Tag: api.TagFat, Mon: at.n, Gen: at.gen})
	g.Cells.Store(g.Map.Word(at.o), w)
	g.Cells.Store(g.Gen(at.n), uint64(at.gen))
}

// operation is what was done to which cell, with which numbers.
type operation struct {
	form     string
	cell     int
	old, new uint64
}

func load(i int) operation { return operation{"load", i, 0, 0} }

func store(i int, v uint64) operation { return operation{"store", i, 0, v} }

func swap(i int, old, new uint64) operation { return operation{"swap", i, old, new} }

// ledger stores cells, and records the operations on them; reading all cells counts as one on each. Ahead of a store, it calls watch, if there is one.
type ledger struct {
	cells []uint64
	done  []operation
	watch func(i int, v uint64)
}

func (b *ledger) Len() int { return len(b.cells) }

func (b *ledger) Load(i int) uint64 {
	b.done = append(b.done, load(i))
	return b.cells[i]
}

func (b *ledger) Store(i int, v uint64) {
	if b.watch != nil {
		b.watch(i, v)
	}
	b.done = append(b.done, store(i, v))
	b.cells[i] = v
}

func (b *ledger) Swap(i int, old, new uint64) bool {
	b.done = append(b.done, swap(i, old, new))
	if b.cells[i] != old {
		return false
	}
	b.cells[i] = new
	return true
}

func (b *ledger) Add(i int, d uint64) uint64 {
	b.done = append(b.done, operation{"add", i, 0, d})
	b.cells[i] += d
	return b.cells[i]
}

// scene is a ground in which what tasks do is recorded, with a monitor for the tests.
type scene struct {
	*testing.T
	*ground.Ground
	spot
	b *ledger
}

// newScene has the monitor here, which nobody owns.
func newScene(t *testing.T) *scene {
	g := ground.New(few, nil, nil)
	fatten(g, here)
	x := &scene{t, g, here, &ledger{cells: g.Cells.All()}}
	g.Cells = cells.Over(x.b)
	return x
}

// owned makes the thread the owner of the monitor, so deep.
func (x *scene) owned(u, depth int) *scene {
	x.b.cells[x.Hold(x.n)] = api.HoldOf(u, depth)
	return x
}

// put makes threads, which run, the last ones of the queue at, in this state at the scene's monitor, so deep.
func (x *scene) put(at, state, depth int, threads []int) *scene {
	for _, u := range threads {
		task.Run(queue.Push(x.Cells, x.Map, at, u))
		x.b.cells[x.State(u)] = api.StateOf(state, x.n)
		x.b.cells[x.Saved(u)] = uint64(depth)
		x.b.cells[x.Safe(u)] = api.SafeRunning
	}
	return x
}

// waiting lets threads wait at the monitor, so deep; entering lets them wait to enter it.
func (x *scene) waiting(depth int, threads ...int) *scene {
	return x.put(x.Wait(x.n), api.StateWaiting, depth, threads)
}

func (x *scene) entering(depth int, threads ...int) *scene {
	return x.put(x.Entry(x.n), api.StateEntering, depth, threads)
}

// The tasks at the scene's monitor.
func (x *scene) wait(u int, timed bool) *task.Task {
	return await.Wait(x.Ground, u, x.o, x.n, x.gen, timed)
}

func (x *scene) notify(u int, all bool) *task.Task {
	return await.Notify(x.Ground, u, x.o, x.n, x.gen, all)
}

func (x *scene) exit(u int) *task.Task { return fat.Exit(x.Ground, u, x.o, x.n, x.gen) }

func (x *scene) interrupt(t, u int) *task.Task { return wake.Interrupt(x.Ground, t, x.o, u) }

// The operations by which u ends and begins, takes and drops the latch, and finds out which generation the monitor has, who is the owner, and whether it was interrupted.
func (x *scene) ends(u int) operation   { return store(x.Safe(u), api.SafeOut) }
func (x *scene) begins(u int) operation { return swap(x.Safe(u), api.SafeOut, api.SafeRunning) }
func (x *scene) takes(u int) operation  { return swap(x.Latch(x.n), 0, uint64(u)+1) }
func (x *scene) drops(u int) operation  { return swap(x.Latch(x.n), uint64(u)+1, 0) }
func (x *scene) looks() operation       { return load(x.Gen(x.n)) }
func (x *scene) asks() operation        { return load(x.Hold(x.n)) }
func (x *scene) flag(u int) operation   { return load(x.Flag(u)) }

// saves, becomes and states are the operations by which u keeps how deep it was, becomes the owner, and is in a state.
func (x *scene) saves(u, depth int) operation { return store(x.Saved(u), uint64(depth)) }

func (x *scene) becomes(u, depth int) operation {
	return store(x.Hold(x.n), api.HoldOf(u, depth))
}

func (x *scene) states(u, state int) operation {
	return store(x.State(u), api.StateOf(state, x.n))
}

// act is an act on the scene's object.
func (x *scene) act(u, act, other int) api.Event {
	return api.Event{Kind: api.EvAct, Thread: u, Act: act, Obj: x.o, Other: other}
}

// wantStep takes a step of the task by PickStep: it is this operation, and logs these acts. No other kind of step can be taken.
func (x *scene) wantStep(a *task.Task, want operation, acts ...api.Event) {
	x.Helper()
	for _, kind := range stepKinds[1:] {
		if a.Can(kind) || a.Step(kind) {
			x.Fatalf("a step of the kind %d", kind)
		}
	}
	log, steps := len(x.Events()), x.Cells.Steps()
	x.b.done = nil
	if a.Parked() || a.Value() != 0 || !a.Can(api.PickStep) || !a.Step(api.PickStep) {
		x.Fatalf("no step; Done = %v, Parked = %v, Value = %d, want %v", a.Done(), a.Parked(), a.Value(), want)
	}
	if done := x.b.done; !slices.Equal(done, []operation{want}) || x.Cells.Steps() != steps+1 {
		x.Fatalf("the step does %v, want %v", done, want)
	}
	if got := x.Events()[log:]; !slices.Equal(got, acts) {
		x.Fatalf("the step logs %v, want %v", got, acts)
	}
}

// wantSteps takes steps that log nothing.
func (x *scene) wantSteps(a *task.Task, want ...operation) {
	x.Helper()
	for _, o := range want {
		x.wantStep(a, o)
	}
}

// wantQueueSteps takes steps of one operation each on the queue at, which log nothing, until one would be another operation; that one logs these acts.
func (x *scene) wantQueueSteps(a *task.Task, at int, last operation, acts ...api.Event) {
	x.Helper()
	of := []int{at, at + 1}
	for u := range x.Threads {
		of = append(of, x.Next(u))
	}
	for range 20 {
		log := len(x.Events())
		x.b.done = nil
		if !a.Step(api.PickStep) || len(x.b.done) != 1 {
			x.Fatalf("the step does %v, want %v", x.b.done, last)
		}
		logged := x.Events()[log:]
		if x.b.done[0] == last {
			if !slices.Equal(logged, acts) {
				x.Fatalf("%v logs %v, want %v", last, logged, acts)
			}
			return
		}
		if !slices.Contains(of, x.b.done[0].cell) || len(logged) > 0 {
			x.Fatalf("the step does %v, and logs %v, want %v", x.b.done, logged, last)
		}
	}
	x.Fatalf("no step that does %v", last)
}

// wantParked tests that the task is parked, for the thread's permit, and for a time, if it is timed.
func (x *scene) wantParked(a *task.Task, u int, timed bool) {
	x.Helper()
	if !a.Parked() || a.Done() || a.Can(api.PickTime) != timed || a.Can(api.PickStep) != x.Permits.Has(u) || !a.Can(api.PickSpurious) {
		x.Fatalf("Parked = %v, Done = %v", a.Parked(), a.Done())
	}
}

// wantNoOperation takes a step of this kind, which is no operation, and logs nothing.
func (x *scene) wantNoOperation(a *task.Task, kind int) {
	x.Helper()
	log := len(x.Events())
	x.b.done = nil
	if !a.Step(kind) || len(x.b.done) > 0 || len(x.Events()) != log {
		x.Fatalf("the step does %v, or there is none", x.b.done)
	}
}

// wantDone tests that the task is done, with this value, and takes no steps any more.
func (x *scene) wantDone(a *task.Task, value int) {
	x.Helper()
	if !a.Done() || a.Parked() || a.Value() != value {
		x.Fatalf("Done = %v, Parked = %v, Value = %d, want the value %d", a.Done(), a.Parked(), a.Value(), value)
	}
	for _, kind := range stepKinds {
		if a.Step(kind) {
			x.Fatalf("a step of the kind %d", kind)
		}
	}
}

// wantSame tests that the cells contain what they did, but for these, by their numbers; and that nobody has a permit.
func (x *scene) wantSame(before []uint64, but map[int]uint64) {
	x.Helper()
	want := slices.Clone(before)
	for i, v := range but {
		want[i] = v
	}
	if !slices.Equal(x.b.cells, want) {
		x.Fatalf("cells %v, want %v", x.b.cells, want)
	}
	for u := range x.Threads {
		if x.Permits.Has(u) {
			x.Fatalf("the thread %d has a permit", u)
		}
	}
}

// wantView tests what is observed of the scene's object, and that of all others nothing is.
func (x *scene) wantView(owner, depth int, waiting ...int) {
	x.Helper()
	for o := range x.Objects {
		want := api.View{Owner: -1}
		if o == x.o {
			want = api.View{Owner: owner, Depth: depth, Waiting: slices.Sorted(slices.Values(waiting))}
		}
		if v := x.View(o); v.Owner != want.Owner || v.Depth != want.Depth || !slices.Equal(v.Waiting, want.Waiting) {
			x.Fatalf("View(%d) = %v, want %v", o, v, want)
		}
	}
}

// wantQueues tests which threads wait, and which ones wait to enter.
func (x *scene) wantQueues(wait, entry []int) {
	x.Helper()
	if got := queue.Look(x.Cells, x.Map, x.Wait(x.n)); !slices.Equal(got, wait) {
		x.Fatalf("the wait queue is %v, want %v", got, wait)
	}
	if got := queue.Look(x.Cells, x.Map, x.Entry(x.n)); !slices.Equal(got, entry) {
		x.Fatalf("the entry queue is %v, want %v", got, entry)
	}
}
