package thin_test

import (
	"math"
	"slices"
	"testing"

	"doorkeeper/api"
	"doorkeeper/ground"
	"doorkeeper/task"
	"doorkeeper/thin"
)

// counts are how often a thread may be in an object by its word, with the least and the greatest.
var counts = []int{1, 2, 3, 7, 127, 128, 253, 254, 255}

// The chapter's examples.

func TestExamplesOneBehindTheOther(t *testing.T) {
	type step struct {
		do      func(g *ground.Ground, t, o int) *task.Task
		u, want int
	}
	for _, k := range kinds {
		for _, e := range []struct {
			steps        []step
			owner, depth int
		}{
			{[]step{{thin.Enter, 0, ok}, {thin.Enter, 0, ok}, {thin.Enter, 1, stale}, {thin.Exit, 1, refused}}, 0, 2},
			{[]step{{thin.Enter, 0, ok}, {thin.Enter, 0, ok}, {thin.Holds, 0, held}, {thin.Holds, 1, ok}, {thin.Exit, 0, ok}, {thin.Exit, 0, ok}, {thin.Exit, 0, refused}}, -1, 0},
		} {
			g := k.make(mapOf(2, 1, 0), []int{9}, nil)
			for i, s := range e.steps {
				if v := task.Run(s.do(g, s.u, 0)); v != s.want {
					t.Errorf("%s: the task %d has the value %d, want %d", k.name, i, v, s.want)
				}
			}
			if v := g.View(0); v.Owner != e.owner || v.Depth != e.depth {
				t.Errorf("%s: View = %v, want %d, %d", k.name, v, e.owner, e.depth)
			}
			if h, is := g.Word(0); !is || h.Hash != 9 {
				t.Errorf("%s: Word = %v, %v", k.name, h, is)
			}
		}
	}
}

func TestExampleOfBothAtOnce(t *testing.T) {
	for _, k := range kinds {
		for first := range 2 {
			g, other := k.make(mapOf(2, 1, 0), []int{9}, nil), 1-first
			both := []*task.Task{thin.Enter(g, 0, 0), thin.Enter(g, 1, 0)}
			both[other].Step(api.PickStep)
			both[first].Step(api.PickStep)
			both[first].Step(api.PickStep)
			if !both[first].Done() || both[first].Value() != ok || !both[other].Step(api.PickStep) || both[other].Done() {
				t.Fatalf("%s: the one that changes the word first is not in, or the other one does not go on", k.name)
			}
			if v := g.View(0); v.Owner != first || v.Depth != 1 {
				t.Fatalf("%s: View = %v", k.name, v)
			}
			if !both[other].Step(api.PickStep) || !both[other].Done() || both[other].Value() != stale {
				t.Fatalf("%s: the other one's value is %d", k.name, both[other].Value())
			}
		}
	}
}

// P17.1: Enter

// A thread becomes the owner of a free object, with a Load, and a Swap.
func TestEnterOfAFreeObject(t *testing.T) {
	for u := range few.Threads {
		x := newScene(t, freeWord())
		before := slices.Clone(x.b.cells)
		a := x.enter(u)
		x.wantLoad(a)
		x.wantView(-1, 0)
		x.wantSwap(a, freeWord(), thinWord(u, 1), x.act(u, api.ActEnter, 0))
		x.wantDone(a, ok)
		x.wantView(u, 1)
		x.wantSame(before, thinWord(u, 1))
	}
}

// The owner is in it once more, up to 255 times.
func TestEnterOfTheOwner(t *testing.T) {
	for u := range few.Threads {
		for count := 1; count < 255; count++ {
			x := newScene(t, thinWord(u, count))
			before := slices.Clone(x.b.cells)
			a := x.enter(u)
			x.wantLoad(a)
			x.wantView(u, count)
			x.wantSwap(a, thinWord(u, count), thinWord(u, count+1), x.act(u, api.ActEnter, 0))
			x.wantDone(a, ok)
			x.wantView(u, count+1)
			x.wantSame(before, thinWord(u, count+1))
		}
	}
}

// With 255 it is ErrDepth, without an act, and nothing changes; it may leave, and enter again.
func TestEnterTooDeep(t *testing.T) {
	for u := range few.Threads {
		x := newScene(t, thinWord(u, 255))
		before := slices.Clone(x.b.cells)
		for range 3 {
			a := x.enter(u)
			x.wantLoad(a)
			x.wantDone(a, tooDeep)
			x.wantSame(before, thinWord(u, 255))
			x.wantView(u, 255)
		}
		x.wantNoActs()
		if out, in := task.Run(x.exit(u)), task.Run(x.enter(u)); out != ok || in != ok {
			t.Fatalf("Exit and Enter: %d, %d", out, in)
		}
		x.wantSame(before, thinWord(u, 255))
	}
}

// An object that is fresh, or another thread's, whatever its Count, is stale, without an act.
func TestEnterOfOtherWords(t *testing.T) {
	words := []uint64{freshWord()}
	for _, u := range []int{0, 2, 3, 4, 32765} {
		for _, count := range counts {
			words = append(words, thinWord(u, count))
		}
	}
	for _, w := range append(words, elsewhere...) {
		x := newScene(t, w)
		before := slices.Clone(x.b.cells)
		a := x.enter(1)
		x.wantLoad(a)
		x.wantDone(a, stale)
		x.wantSame(before, w)
		x.wantNoActs()
	}
}

// P17.2: Exit

// The owner is in it once less.
func TestExitOfADeepOwner(t *testing.T) {
	for u := range few.Threads {
		for count := 2; count <= 255; count++ {
			x := newScene(t, thinWord(u, count))
			before := slices.Clone(x.b.cells)
			a := x.exit(u)
			x.wantLoad(a)
			x.wantView(u, count)
			x.wantSwap(a, thinWord(u, count), thinWord(u, count-1), x.act(u, api.ActExit, 0))
			x.wantDone(a, ok)
			x.wantView(u, count-1)
			x.wantSame(before, thinWord(u, count-1))
		}
	}
}

// From Count 1, it leaves the object free.
func TestExitToFree(t *testing.T) {
	for u := range few.Threads {
		x := newScene(t, thinWord(u, 1))
		before := slices.Clone(x.b.cells)
		a := x.exit(u)
		x.wantLoad(a)
		x.wantView(u, 1)
		x.wantSwap(a, thinWord(u, 1), freeWord(), x.act(u, api.ActExit, 0))
		x.wantDone(a, ok)
		x.wantView(-1, 0)
		x.wantSame(before, freeWord())
	}
}

// notOwn are words by which the thread 1 is not the owner: nobody's, and other threads'.
func notOwn() []uint64 {
	words := []uint64{freeWord(), freshWord()}
	for _, u := range []int{0, 2, 4, 32765} {
		for _, count := range counts {
			words = append(words, thinWord(u, count))
		}
	}
	return words
}

// A thread that is not the owner is refused, at the Load, which changes nothing.
func TestExitOfAnother(t *testing.T) {
	for _, w := range notOwn() {
		x := newScene(t, w)
		before, view := slices.Clone(x.b.cells), x.View(here)
		a := x.exit(1)
		x.wantLoad(a, x.act(1, api.ActRefuse, 4))
		x.wantDone(a, refused)
		x.wantSame(before, w)
		x.wantView(view.Owner, view.Depth)
	}
}

// P17.3: Holds

// Holds tells whether the word is the thread's own, at the Load, and changes nothing.
func TestHolds(t *testing.T) {
	for _, w := range notOwn() {
		x := newScene(t, w)
		before := slices.Clone(x.b.cells)
		a := x.holds(1)
		x.wantLoad(a, x.act(1, api.ActLook, 0))
		x.wantDone(a, ok)
		x.wantSame(before, w)
	}
	for u := range few.Threads {
		for count := 1; count <= 255; count++ {
			x := newScene(t, thinWord(u, count))
			before := slices.Clone(x.b.cells)
			a := x.holds(u)
			x.wantLoad(a, x.act(u, api.ActLook, 1))
			x.wantDone(a, held)
			x.wantSame(before, thinWord(u, count))
		}
	}
}

// P17.2, P17.3: For all other words both are stale, without an act.
func TestExitAndHoldsOfOtherWords(t *testing.T) {
	for _, w := range elsewhere {
		x := newScene(t, w)
		before := slices.Clone(x.b.cells)
		for _, a := range []*task.Task{x.exit(1), x.holds(1)} {
			x.wantLoad(a)
			x.wantDone(a, stale)
			x.wantSame(before, w)
		}
		x.wantNoActs()
	}
}

// P17.1, P17.2: Swaps that fail

// begins is a task of the thread 1 that is about to change the word old to new by the act.
type begins struct {
	old, new uint64
	act      int
	make     func(x *scene) *task.Task
}

// changes are those that may be.
func changes() []begins {
	enter := func(x *scene) *task.Task { return x.enter(1) }
	exit := func(x *scene) *task.Task { return x.exit(1) }
	l := []begins{{freeWord(), thinWord(1, 1), api.ActEnter, enter}, {thinWord(1, 1), freeWord(), api.ActExit, exit}}
	for _, count := range []int{1, 2, 100, 254} {
		l = append(l, begins{thinWord(1, count), thinWord(1, count+1), api.ActEnter, enter})
		l = append(l, begins{thinWord(1, count+1), thinWord(1, count), api.ActExit, exit})
	}
	return l
}

// others are words that an object may have got meanwhile.
func others() []uint64 {
	l := append(notOwn(), elsewhere...)
	for _, count := range counts {
		l = append(l, thinWord(1, count))
	}
	return append(l, wordOf(api.Header{Tag: api.TagFree, Hash: hash + 1}), wordOf(api.Header{Tag: api.TagThin, Owner: 1, Count: 2}))
}

// When the word is another one at the Swap, that changes nothing, and logs nothing; the task does then what one does that begins at that time.
func TestSwapsThatFail(t *testing.T) {
	for _, c := range changes() {
		for _, w := range others() {
			if w == c.old {
				continue
			}
			x, anew := newScene(t, c.old), newScene(t, w)
			a, b := c.make(x), c.make(anew)
			x.wantLoad(a)
			x.turned(w)
			before := slices.Clone(x.b.cells)
			x.wantSwap(a, c.old, c.new)
			x.wantSame(before, w)
			x.wantAlike(a, anew, b)
		}
	}
}

// wantAlike takes all steps of a task, and of one in another scene, which do and log the same.
func (x *scene) wantAlike(a *task.Task, anew *scene, b *task.Task) {
	x.Helper()
	for n := 0; !b.Done(); n++ {
		if n == 5 {
			x.Fatal("it does not end")
		}
		anew.b.done, x.b.done = nil, nil
		if !b.Step(api.PickStep) || !a.Step(api.PickStep) || !slices.Equal(x.b.done, anew.b.done) {
			x.Fatalf("the step does %v, want %v", x.b.done, anew.b.done)
		}
		if got, want := x.Events(), anew.Events(); !slices.Equal(got, want) {
			x.Fatalf("the log is %v, want %v", got, want)
		}
	}
	x.wantDone(a, b.Value())
	x.wantSame(anew.b.cells, anew.b.cells[anew.at()])
}

// A task starts again as often as it must.
func TestSwapsThatFailAgainAndAgain(t *testing.T) {
	x := newScene(t, thinWord(1, 1))
	in, out := x.enter(1), x.exit(1)
	for count := 1; count < 100; count++ {
		x.turned(thinWord(1, count))
		x.wantLoad(in)
		x.wantLoad(out)
		x.turned(thinWord(1, count+1))
		x.wantSwap(in, thinWord(1, count), thinWord(1, count+1))
		if count == 1 {
			x.wantSwap(out, thinWord(1, 1), freeWord())
		} else {
			x.wantSwap(out, thinWord(1, count), thinWord(1, count-1))
		}
	}
	x.wantNoActs()
	x.wantView(1, 100)
	x.wantLoad(in)
	x.wantSwap(in, thinWord(1, 100), thinWord(1, 101), x.act(1, api.ActEnter, 0))
	x.wantDone(in, ok)
	x.wantLoad(out)
	x.wantSwap(out, thinWord(1, 101), thinWord(1, 100), x.act(1, api.ActExit, 0))
	x.wantDone(out, ok)
}

// Whether the Swap succeeds depends on the word alone: one that was another one meanwhile, and is not any more, is the same.
func TestSwapsOfAWordThatCameBack(t *testing.T) {
	for _, c := range changes() {
		x := newScene(t, c.old)
		a := c.make(x)
		x.wantLoad(a)
		x.turned(thinWord(4, 9)).turned(c.old)
		x.wantSwap(a, c.old, c.new, x.act(1, c.act, 0))
		x.wantDone(a, ok)
	}
}

// Words

// Nothing is loaded, and nothing logged, ahead of the first step; what counts is the word then.
func TestTasksBeginWithALoad(t *testing.T) {
	x := newScene(t, freshWord())
	x.b.done = nil
	in, out, look := x.enter(1), x.exit(1), x.holds(1)
	if len(x.b.done) > 0 {
		t.Fatalf("a task does %v ahead of its steps", x.b.done)
	}
	x.wantNoActs()
	x.turned(thinWord(1, 255))
	x.wantLoad(look, x.act(1, api.ActLook, 1))
	x.wantLoad(out)
	x.wantLoad(in)
	x.wantDone(in, tooDeep)
	x.wantSwap(out, thinWord(1, 255), thinWord(1, 254), x.act(1, api.ActExit, 0))
	x.wantDone(out, ok)
}

// A word keeps its hash, whichever it is, and the objects, and the threads, are those that are named.
func TestWordsKeepTheirHashes(t *testing.T) {
	hashes := []int{0, 1, 255, 0x555555, 1 << 23, api.MaxHash}
	for _, k := range kinds {
		g := k.make(mapOf(7, len(hashes), 1), hashes, nil)
		for o := range hashes {
			for u := range g.Threads {
				wantHash(t, g, u, o, hashes[o])
			}
		}
	}
}

// wantHash lets the thread enter a free object, as often as may be, and leave it.
func wantHash(t *testing.T, g *ground.Ground, u, o, hash int) {
	t.Helper()
	want := func(h api.Header, v, value int) {
		t.Helper()
		h.Hash = hash
		if got, is := g.Word(o); !is || got != h || v != value {
			t.Fatalf("Word(%d) = %v, %v, and the value %d, want %v and %d", o, got, is, v, h, value)
		}
	}
	for count := 1; count <= 255; count++ {
		want(api.Header{Tag: api.TagThin, Owner: u, Count: count}, task.Run(thin.Enter(g, u, o)), ok)
	}
	want(api.Header{Tag: api.TagThin, Owner: u, Count: 255}, task.Run(thin.Enter(g, u, o)), tooDeep)
	for count := 254; count > 0; count-- {
		want(api.Header{Tag: api.TagThin, Owner: u, Count: count}, task.Run(thin.Exit(g, u, o)), ok)
	}
	want(api.Header{Tag: api.TagFree}, task.Run(thin.Exit(g, u, o)), ok)
	want(api.Header{Tag: api.TagFree}, task.Run(thin.Exit(g, u, o)), refused)
	want(api.Header{Tag: api.TagFree}, task.Run(thin.Holds(g, u, o)), ok)
}

// The last thread, and the last object, of the largest map are like all others.
func TestTheLargestMap(t *testing.T) {
	g := ground.New(mapOf(api.MaxThreads, api.MaxObjects, 0), nil, nil)
	u, o := api.MaxThreads-1, api.MaxObjects-1
	for _, c := range []struct {
		a                   *task.Task
		value, owner, depth int
	}{
		{thin.Enter(g, u, o), ok, u, 1},
		{thin.Enter(g, u, o), ok, u, 2},
		{thin.Enter(g, 0, o), stale, u, 2},
		{thin.Holds(g, u, o), held, u, 2},
		{thin.Exit(g, u-1, o), refused, u, 2},
		{thin.Exit(g, u, o), ok, u, 1},
		{thin.Exit(g, u, o), ok, -1, 0},
	} {
		if v := task.Run(c.a); v != c.value {
			t.Errorf("the value is %d, want %d", v, c.value)
		}
		if v := g.View(o); v.Owner != c.owner || v.Depth != c.depth {
			t.Errorf("View = %v, want %d, %d", v, c.owner, c.depth)
		}
	}
}

// Wrong numbers

// notThere are numbers of nothing, for a map of n.
func notThere(n int) []int {
	return []int{-1, -2, -n, n, n + 1, 1 << 16, 1 << 20, 1 << 32, 1<<32 + 1, math.MaxInt, math.MinInt}
}

// With a thread or an object that does not exist, nothing is done, at once, whatever the word is.
func TestWrongNumbers(t *testing.T) {
	for _, w := range []uint64{freeWord(), freshWord(), thinWord(1, 1), thinWord(1, 255), thinWord(4, 2), biasedWord(1, 1), fatWord(0, 0), 7} {
		x := newScene(t, w)
		before := slices.Clone(x.b.cells)
		x.b.done = nil
		for _, u := range notThere(few.Threads) {
			for _, a := range x.all(u) {
				x.wantDone(a, argument)
			}
		}
		for _, o := range notThere(few.Objects) {
			x.o = o
			for _, a := range x.all(1) {
				x.wantDone(a, argument)
			}
		}
		x.o = here
		if len(x.b.done) > 0 {
			t.Fatalf("it does %v", x.b.done)
		}
		x.wantSame(before, w)
		x.wantNoActs()
	}
}

// Without a ground, or with one that is nothing, or whose map may not be, nothing is done, at once.
func TestWithoutAGround(t *testing.T) {
	tooMany := ground.New(few, nil, nil)
	tooMany.Threads = api.MaxThreads + 1
	for _, g := range []*ground.Ground{nil, {}, tooMany} {
		for _, u := range []int{0, 1, api.MaxThreads, -1} {
			for _, a := range []*task.Task{thin.Enter(g, u, 0), thin.Exit(g, u, 0), thin.Holds(g, u, 0)} {
				if !a.Done() || a.Value() != argument || a.Step(api.PickStep) {
					t.Fatalf("Done = %v, Value = %d", a.Done(), a.Value())
				}
			}
		}
		if l := g.Events(); len(l) > 0 {
			t.Fatalf("the log is %v", l)
		}
	}
}
