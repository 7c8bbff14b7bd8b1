package thin_test

import (
	"math"
	"slices"
	"testing"

	"doorkeeper/api"
	"doorkeeper/cells"
	"doorkeeper/ground"
	"doorkeeper/task"
	"doorkeeper/thin"
)

// kinds are the two ways to make a ground.
var kinds = []struct {
	name string
	make func(m api.Map, hashes []int, fresh []bool) *ground.Ground
}{
	{"New", ground.New},
	{"Real", ground.Real},
}

// stepKinds are kinds of steps; by all but PickStep a task that is not parked takes none.
var stepKinds = []int{api.PickStep, api.PickTime, api.PickSpurious, -1, 3, 1 << 32, math.MinInt, math.MaxInt}

// The results of calls, as numbers.
var (
	ok       = api.Packed(api.Result{})
	held     = api.Packed(api.Result{Value: 1})
	argument = api.Packed(api.Result{Code: api.ErrArg})
	refused  = api.Packed(api.Result{Code: api.ErrOwner})
	tooDeep  = api.Packed(api.Result{Code: api.ErrDepth})
	stale    = api.Packed(api.Result{Code: api.ErrStale})
)

// mapOf is the map of so many threads, objects and monitors.
func mapOf(threads, objects, monitors int) api.Map {
	return api.Map{Threads: threads, Objects: objects, Monitors: monitors}
}

// few is a map of a few of all; here is an object in it, and hash its hash.
var few = mapOf(5, 3, 2)

const (
	here = 1
	hash = 0xabcdef
)

// wordOf is the word of a valid header, by powers of two, not by package word.
func wordOf(h api.Header) uint64 {
	w := uint64(h.Tag) + uint64(h.Hash)*8
	switch h.Tag {
	case api.TagBiased, api.TagThin:
		w += uint64(h.Owner)*134217728 + uint64(h.Count)*4398046511104
	case api.TagFat:
		w += uint64(h.Mon)*134217728 + uint64(h.Gen)*549755813888
	}
	return w
}

// Words of the object here.
func freeWord() uint64  { return wordOf(api.Header{Tag: api.TagFree, Hash: hash}) }
func freshWord() uint64 { return wordOf(api.Header{Tag: api.TagFresh, Hash: hash}) }

func biasedWord(u, count int) uint64 {
	return wordOf(api.Header{Tag: api.TagBiased, Owner: u, Count: count, Hash: hash})
}

func thinWord(u, count int) uint64 {
	return wordOf(api.Header{Tag: api.TagThin, Owner: u, Count: count, Hash: hash})
}

func fatWord(n, gen int) uint64 {
	return wordOf(api.Header{Tag: api.TagFat, Mon: n, Gen: gen, Hash: hash})
}

// elsewhere are words that neither are nobody's nor thin: those that are biased, to the thread 1 or to others, or fat, and those that are no header's, though some of them look free, or like the thread 1's own; the last one is, as an int, the value by which loops go on.
var elsewhere = []uint64{
	biasedWord(1, 0), biasedWord(1, 1), biasedWord(1, 255), biasedWord(0, 0), biasedWord(3, 1), biasedWord(3, 255), biasedWord(32765, 7),
	fatWord(0, 0), fatWord(1, 0), fatWord(1, 4095), fatWord(4095, 0), fatWord(0, 8),
	thinWord(1, 0), thinWord(0, 0), thinWord(1, 1) | 1<<50, thinWord(1, 1) | 1<<63, thinWord(32766, 1), thinWord(32767, 255),
	freeWord() | 1<<27, freeWord() | 1<<42, freeWord() | 1<<63, freshWord() | 1<<30, freshWord() | 1<<63,
	biasedWord(32766, 0), biasedWord(1, 1) | 1<<50, fatWord(1, 1) | 1<<51, fatWord(1, 1) | 1<<63,
	5, 6, 7, 5 + hash*8, 7 + 1<<27 + 1<<42, math.MaxUint64, math.MaxUint64 - 2, 1 << 63, 1<<64 - 1<<31,
}

// operation is what was done to which cell, with which numbers.
type operation struct {
	form     string
	cell     int
	old, new uint64
}

func load(i int) operation { return operation{"load", i, 0, 0} }

func swap(i int, old, new uint64) operation { return operation{"swap", i, old, new} }

// ledger stores cells, and records the operations on them; reading all cells counts as one on each.
type ledger struct {
	cells []uint64
	done  []operation
}

func (b *ledger) Len() int { return len(b.cells) }

func (b *ledger) Load(i int) uint64 {
	b.done = append(b.done, load(i))
	return b.cells[i]
}

func (b *ledger) Store(i int, v uint64) {
	b.done = append(b.done, operation{"store", i, 0, v})
	b.cells[i] = v
}

func (b *ledger) Swap(i int, old, new uint64) bool {
	b.done = append(b.done, swap(i, old, new))
	if b.cells[i] != old {
		return false
	}
	b.cells[i] = new
	return true
}

func (b *ledger) Add(i int, d uint64) uint64 {
	b.done = append(b.done, operation{"add", i, 0, d})
	b.cells[i] += d
	return b.cells[i]
}

// scene is a ground in which what tasks do is recorded, with an object o for the tests.
type scene struct {
	*testing.T
	*ground.Ground
	o int
	b *ledger
}

// newScene has the word w for the object here; its other objects are free and fresh, and what its monitors say is nothing that a thin lock could mean.
func newScene(t *testing.T, w uint64) *scene {
	g := ground.New(few, []int{3, hash, 4}, []bool{true})
	x := &scene{t, g, here, &ledger{cells: g.Cells.All()}}
	x.b.cells[g.Hold(0)] = api.HoldOf(1, 6)
	x.b.cells[g.Hold(1)] = api.HoldOf(2, 3)
	g.Cells = cells.Over(x.b)
	return x.turned(w)
}

// turned gives the object another word.
func (x *scene) turned(w uint64) *scene {
	x.b.cells[x.at()] = w
	return x
}

// at is the cell of the object's word.
func (x *scene) at() int { return x.Map.Word(x.o) }

// The tasks of a thread at the object.
func (x *scene) enter(u int) *task.Task { return thin.Enter(x.Ground, u, x.o) }
func (x *scene) exit(u int) *task.Task  { return thin.Exit(x.Ground, u, x.o) }
func (x *scene) holds(u int) *task.Task { return thin.Holds(x.Ground, u, x.o) }

// all are the tasks of a thread at the object, in this order.
func (x *scene) all(u int) []*task.Task { return []*task.Task{x.enter(u), x.exit(u), x.holds(u)} }

// act is an act on the scene's object.
func (x *scene) act(u, act, other int) api.Event {
	return api.Event{Kind: api.EvAct, Thread: u, Act: act, Obj: x.o, Other: other}
}

// wantStep takes a step of the task by PickStep: it is this operation, and logs these acts. No other kind of step can be taken.
func (x *scene) wantStep(a *task.Task, want operation, acts ...api.Event) {
	x.Helper()
	for _, kind := range stepKinds[1:] {
		if a.Can(kind) || a.Step(kind) {
			x.Fatalf("a step of the kind %d", kind)
		}
	}
	log, steps := len(x.Events()), x.Cells.Steps()
	x.b.done = nil
	if a.Parked() || a.Value() != 0 || !a.Can(api.PickStep) || !a.Step(api.PickStep) {
		x.Fatalf("no step; Done = %v, Parked = %v, Value = %d, want %v", a.Done(), a.Parked(), a.Value(), want)
	}
	if done := x.b.done; !slices.Equal(done, []operation{want}) || x.Cells.Steps() != steps+1 {
		x.Fatalf("the step does %v, want %v", done, want)
	}
	if got := x.Events()[log:]; !slices.Equal(got, acts) {
		x.Fatalf("the step logs %v, want %v", got, acts)
	}
}

// wantLoad takes the step that loads the object's word, and logs these acts.
func (x *scene) wantLoad(a *task.Task, acts ...api.Event) {
	x.Helper()
	x.wantStep(a, load(x.at()), acts...)
}

// wantSwap takes the step that changes the object's word, or does not, and logs these acts.
func (x *scene) wantSwap(a *task.Task, old, new uint64, acts ...api.Event) {
	x.Helper()
	x.wantStep(a, swap(x.at(), old, new), acts...)
}

// wantDone tests that the task is done, with this value, and takes no steps any more.
func (x *scene) wantDone(a *task.Task, value int) {
	x.Helper()
	if !a.Done() || a.Parked() || a.Value() != value {
		x.Fatalf("Done = %v, Parked = %v, Value = %d, want the value %d", a.Done(), a.Parked(), a.Value(), value)
	}
	for _, kind := range stepKinds {
		if a.Step(kind) {
			x.Fatalf("a step of the kind %d", kind)
		}
	}
}

// wantSame tests that the cells contain what they did, but for the object's word, which is w; and that nobody has a permit.
func (x *scene) wantSame(before []uint64, w uint64) {
	x.Helper()
	want := slices.Clone(before)
	want[x.at()] = w
	if !slices.Equal(x.b.cells, want) {
		x.Fatalf("cells %v, want %v", x.b.cells, want)
	}
	for u := range x.Threads {
		if x.Permits.Has(u) {
			x.Fatalf("the thread %d has a permit", u)
		}
	}
}

// wantView tests what is observed of the scene's object, and that of all others nothing is.
func (x *scene) wantView(owner, depth int) {
	x.Helper()
	for o := range x.Objects {
		want := api.View{Owner: -1}
		if o == x.o {
			want = api.View{Owner: owner, Depth: depth}
		}
		if v := x.View(o); v.Owner != want.Owner || v.Depth != want.Depth || len(v.Waiting) != 0 {
			x.Fatalf("View(%d) = %v, want %v", o, v, want)
		}
	}
}

// wantNoActs tests that nothing was logged.
func (x *scene) wantNoActs() {
	x.Helper()
	if l := x.Events(); len(l) > 0 {
		x.Fatalf("the log is %v", l)
	}
}
