package ground_test

import (
	"math"
	"slices"
	"sync"
	"testing"

	"doorkeeper/api"
	"doorkeeper/cells"
	"doorkeeper/ground"
	"doorkeeper/permit"
	"doorkeeper/pool"
	"doorkeeper/task"
	"doorkeeper/word"
)

// kinds are the two ways to make a ground.
var kinds = []struct {
	name string
	make func(m api.Map, hashes []int, fresh []bool) *ground.Ground
}{
	{"New", ground.New},
	{"Real", ground.Real},
}

// few is a map of a few of all.
var few = mapOf(3, 4, 2)

// mapOf is the map of so many threads, objects and monitors.
func mapOf(threads, objects, monitors int) api.Map {
	return api.Map{Threads: threads, Objects: objects, Monitors: monitors}
}

// twice tests grounds of both kinds.
func twice(t *testing.T, m api.Map, hashes []int, fresh []bool, test func(t *testing.T, g *ground.Ground)) {
	t.Helper()
	for _, k := range kinds {
		t.Run(k.name, func(t *testing.T) {
			g := k.make(m, hashes, fresh)
			if g == nil {
				t.Fatalf("no ground of %v", m)
			}
			test(t, g)
		})
	}
}

// packed is the word of a valid header.
func packed(t *testing.T, h api.Header) uint64 {
	t.Helper()
	w, is := word.Pack(h)
	if !is {
		t.Fatalf("no word of %v", h)
	}
	return w
}

// wantView tests a view, and that it is no operation, and changes nothing.
func wantView(t *testing.T, g *ground.Ground, o, owner, depth int, waiting ...int) {
	t.Helper()
	steps, all := g.Cells.Steps(), g.Cells.All()
	v := g.View(o)
	if v.Owner != owner || v.Depth != depth || !slices.Equal(v.Waiting, waiting) {
		t.Fatalf("View(%d) = %v, want %d %d %v", o, v, owner, depth, waiting)
	}
	if g.Cells.Steps() != steps || !slices.Equal(g.Cells.All(), all) {
		t.Fatalf("View(%d) does an operation", o)
	}
}

// wantWord tests a header, and that to see it is no operation, and changes nothing.
func wantWord(t *testing.T, g *ground.Ground, o int, want api.Header) {
	t.Helper()
	steps, all := g.Cells.Steps(), g.Cells.All()
	h, is := g.Word(o)
	if !is || h != want {
		t.Fatalf("Word(%d) = %v, %v, want %v", o, h, is, want)
	}
	if g.Cells.Steps() != steps || !slices.Equal(g.Cells.All(), all) {
		t.Fatalf("Word(%d) does an operation", o)
	}
}

// wantNoWord tests that there is no header, and so no owner.
func wantNoWord(t *testing.T, g *ground.Ground, o int) {
	t.Helper()
	if h, is := g.Word(o); is || h != (api.Header{}) {
		t.Fatalf("Word(%d) = %v, %v, want none", o, h, is)
	}
	if v := g.View(o); v.Owner != -1 || v.Depth != 0 || len(v.Waiting) != 0 {
		t.Fatalf("View(%d) = %v, want no owner", o, v)
	}
}

// The chapter's examples.
func TestExamples(t *testing.T) {
	twice(t, mapOf(2, 2, 1), []int{5, 6}, []bool{true}, func(t *testing.T, g *ground.Ground) {
		wantWord(t, g, 0, api.Header{Tag: api.TagFresh, Hash: 5})
		wantWord(t, g, 1, api.Header{Tag: api.TagFree, Hash: 6})
		wantView(t, g, 0, -1, 0)
		wantView(t, g, 9, -1, 0)
		g.Cells.Store(g.Map.Word(1), packed(t, api.Header{Tag: api.TagFat, Hash: 6}))
		g.Cells.Store(g.Hold(0), api.HoldOf(1, 3))
		g.Cells.Store(g.State(0), api.StateOf(api.StateWaiting, 0))
		g.Cells.Store(g.State(1), api.StateOf(api.StateWaiting, 0))
		wantView(t, g, 1, 1, 3, 0)
		g.Act(1, api.ActEnter, 0, 0)
		if l := g.Events(); !slices.Equal(l, []api.Event{{Kind: api.EvAct, Thread: 1, Act: api.ActEnter}}) {
			t.Fatalf("Events = %v", l)
		}
	})
}

// P13.1: the initial state

// initial is what the cells contain at first, by the chapter's terms; the words by their numbers, not by those of package word.
func initial(m api.Map, hashes []int, fresh []bool) []uint64 {
	all := make([]uint64, m.Size())
	for o := range m.Objects {
		w := uint64(1)
		if o < len(fresh) && fresh[o] {
			w = 0
		}
		if o < len(hashes) {
			w += uint64(hashes[o]) * 8
		}
		all[m.Word(o)] = w
	}
	for u := range m.Threads {
		all[m.Safe(u)] = 1
	}
	link := m.PoolHead()
	for n := range m.Monitors {
		all[link] = uint64(n) + 1
		link = m.Link(n)
	}
	return all
}

// wantInitial tests that a ground is in its initial state.
func wantInitial(t *testing.T, g *ground.Ground, m api.Map, hashes []int, fresh []bool) {
	t.Helper()
	if g.Map != m {
		t.Fatalf("the map is %v, want %v", g.Map, m)
	}
	if got, want := g.Cells.All(), initial(m, hashes, fresh); !slices.Equal(got, want) {
		t.Fatalf("the cells are %v, want %v", got, want)
	}
	if l := pool.Free(g.Cells, m); len(l) != m.Monitors || !slices.IsSorted(l) {
		t.Fatalf("the pool is %v", l)
	}
	if n := g.Permits.Len(); n != m.Threads {
		t.Fatalf("permits of %d threads", n)
	}
	for u := range m.Threads {
		if g.Permits.Has(u) {
			t.Fatalf("the thread %d has a permit", u)
		}
	}
	if l := g.Events(); len(l) != 0 {
		t.Fatalf("the log is %v", l)
	}
}

func TestInitialState(t *testing.T) {
	maps := []api.Map{mapOf(1, 1, 0), mapOf(1, 1, 1), mapOf(2, 1, 0), few, mapOf(5, 3, 7), mapOf(1, 9, 2)}
	lists := [][]int{nil, {}, {5}, {0, 7}, {1, 2, 3}, {9, 0, 8, 4}, {api.MaxHash}, {0, 0, api.MaxHash, 1 << 23}}
	freshes := [][]bool{nil, {}, {true}, {false, true}, {true, true, true, true}, {false, false, true}}
	for _, m := range maps {
		for _, hashes := range lists {
			for _, fresh := range freshes {
				twice(t, m, hashes, fresh, func(t *testing.T, g *ground.Ground) {
					wantInitial(t, g, m, hashes, fresh)
				})
			}
		}
	}
}

// P13.5: at first no object has an owner, and each word has its hash.
func TestInitialViews(t *testing.T) {
	hashes, fresh := []int{api.MaxHash, 0, 77}, []bool{false, true, true}
	want := []api.Header{{Tag: api.TagFree, Hash: api.MaxHash}, {Tag: api.TagFresh}, {Tag: api.TagFresh, Hash: 77}, {Tag: api.TagFree}}
	for _, m := range []api.Map{few, mapOf(1, 4, 0), mapOf(7, 4, 9)} {
		twice(t, m, hashes, fresh, func(t *testing.T, g *ground.Ground) {
			for o := range m.Objects {
				wantWord(t, g, o, want[o])
				wantView(t, g, o, -1, 0)
			}
		})
	}
}

// The largest maps may be, too.
func TestLargestMaps(t *testing.T) {
	for _, m := range []api.Map{
		mapOf(api.MaxThreads, 1, 0), mapOf(1, api.MaxObjects, 0), mapOf(1, 1, api.MaxMonitors),
		mapOf(api.MaxThreads, api.MaxObjects, api.MaxMonitors),
	} {
		hashes, fresh := make([]int, m.Objects), make([]bool, m.Objects)
		for o := range m.Objects {
			hashes[o], fresh[o] = (o*257+11)%(api.MaxHash+1), o%3 == 0
		}
		last := m.Objects - 1
		hashes[last], fresh[last] = api.MaxHash, false
		twice(t, m, hashes, fresh, func(t *testing.T, g *ground.Ground) {
			wantInitial(t, g, m, hashes, fresh)
			wantWord(t, g, last, api.Header{Tag: api.TagFree, Hash: api.MaxHash})
			wantNoWord(t, g, m.Objects)
			u := m.Threads - 1
			if v := task.Run(g.Begin(u)); v != 1 || g.Cells.Load(g.Safe(u)) != api.SafeRunning {
				t.Fatal("the last thread does not run")
			}
			wantLastMonitor(t, g, last)
		})
	}
}

// wantLastMonitor tests the view of the object when it has the map's last monitor, if there is one.
func wantLastMonitor(t *testing.T, g *ground.Ground, o int) {
	t.Helper()
	n, u := g.Monitors-1, g.Threads-1
	if n < 0 {
		return
	}
	g.Cells.Store(g.Map.Word(o), packed(t, api.Header{Tag: api.TagFat, Mon: n}))
	g.Cells.Store(g.Hold(n), api.HoldOf(u, api.MaxDepth))
	wantView(t, g, o, u, api.MaxDepth)
	g.Cells.Store(g.Hold(n), 0)
	g.Cells.Store(g.State(u), api.StateOf(api.StateWaiting, n))
	wantView(t, g, o, -1, 0, u)
}

// A list may be longer than there are objects: what is too much is no object's, whatever it is.
func TestElementsOfNoObject(t *testing.T) {
	hashes, fresh := []int{3, 4, -1, api.MaxHash + 1, math.MinInt}, []bool{false, true, true, true}
	twice(t, mapOf(1, 2, 1), hashes, fresh, func(t *testing.T, g *ground.Ground) {
		wantInitial(t, g, mapOf(1, 2, 1), hashes[:2], fresh[:2])
	})
}

// wantNone tests that there is no ground, of either kind.
func wantNone(t *testing.T, m api.Map, hashes []int) {
	t.Helper()
	for _, k := range kinds {
		if k.make(m, hashes, nil) != nil {
			t.Errorf("%s: a ground of %v with the hashes %v", k.name, m, hashes)
		}
	}
}

func TestMapsThatAreNotValid(t *testing.T) {
	const least, most = math.MinInt, math.MaxInt
	for _, m := range []api.Map{
		{}, mapOf(0, 1, 1), mapOf(-1, 1, 1), mapOf(1, 0, 1), mapOf(1, -1, 1), mapOf(1, 1, -1),
		mapOf(api.MaxThreads+1, 1, 1), mapOf(1, api.MaxObjects+1, 1), mapOf(1, 1, api.MaxMonitors+1),
		mapOf(least, 1, 1), mapOf(1, least, 1), mapOf(1, 1, least), mapOf(most, 1, 1), mapOf(1, most, 1), mapOf(1, 1, most),
		mapOf(1<<61, 1, 1), mapOf(1<<32, 1, 1), mapOf(1, 1<<32, 1), mapOf(1, 1, 1<<61),
	} {
		wantNone(t, m, nil)
		wantNone(t, m, []int{5})
	}
}

func TestHashesThatAreNotValid(t *testing.T) {
	for _, hash := range []int{-1, -2, api.MaxHash + 1, api.MaxHash + 2, 1 << 32, 1<<32 + 1, -1 << 32, 1 << 61, math.MinInt, math.MaxInt} {
		for o := range few.Objects {
			hashes := []int{1, 2, 3, 4}
			hashes[o] = hash
			wantNone(t, few, hashes)
			wantNone(t, few, hashes[:o+1])
		}
	}
}

// Arguments are not changed, and not kept; no two grounds share anything.
func TestGroundsAreApart(t *testing.T) {
	for _, k := range kinds {
		hashes, fresh := []int{1, 2, 3, 4}, []bool{true, false, true, false}
		a, b := k.make(few, hashes, fresh), k.make(few, hashes, fresh)
		if !slices.Equal(hashes, []int{1, 2, 3, 4}) || !slices.Equal(fresh, []bool{true, false, true, false}) {
			t.Fatalf("%s changes its arguments: %v, %v", k.name, hashes, fresh)
		}
		wantInitial(t, a, few, hashes, fresh)
		for i := range few.Size() {
			a.Cells.Store(i, 99)
		}
		for u := range few.Threads {
			a.Permits.Give(u)
		}
		a.Act(0, 0, 0, 0)
		clear(hashes)
		clear(fresh)
		wantInitial(t, b, few, []int{1, 2, 3, 4}, []bool{true, false, true, false})
	}
}

// The cells of Real are for concurrent use: none of what goroutines add is lost, and an exchange succeeds for one of them.
func TestRealCellsAreConcurrent(t *testing.T) {
	const goroutines, times = 8, 20000
	g := ground.Real(few, nil, nil)
	var all sync.WaitGroup
	won := make([]int, goroutines)
	for i := range goroutines {
		all.Go(func() {
			for n := range times {
				g.Cells.Add(g.Spare(0), 1)
				if g.Cells.Swap(g.Spare(1), uint64(n), uint64(n)+1) {
					won[i]++
				}
			}
		})
	}
	all.Wait()
	if v := g.Cells.Load(g.Spare(0)); v != goroutines*times {
		t.Errorf("%d were added, want %d", v, goroutines*times)
	}
	sum := 0
	for _, n := range won {
		sum += n
	}
	if v := g.Cells.Load(g.Spare(1)); v != uint64(sum) {
		t.Errorf("%d exchanges succeeded, and the cell is %d", sum, v)
	}
}

// Nothing is promised for a nil ground but what Word and View are; no method panics.
func TestNilGround(t *testing.T) {
	var g *ground.Ground
	wantNoWord(t, g, 0)
	wantNoWord(t, g, -1)
	g.Call(0, 0, api.Call{})
	g.Act(0, 0, 0, 0)
	g.Return(0, 0, api.Result{})
	if l := g.Events(); len(l) != 0 {
		t.Errorf("Events = %v", l)
	}
	for _, x := range []*task.Task{g.Begin(0), g.End(0), g.Sleep(0, true)} {
		if !x.Done() || x.Value() != 0 {
			t.Errorf("a task of a nil ground: Done = %v, Value = %d", x.Done(), x.Value())
		}
	}
}

// Nor does a method of a ground that neither New nor Real made.
func TestOtherGrounds(t *testing.T) {
	for _, g := range []*ground.Ground{
		{},
		{Map: few},
		{Map: few, Cells: &cells.Cells{}, Permits: &permit.Permits{}},
		{Map: few, Cells: cells.New(few.Size() - 1), Permits: permit.New(1)},
		{Map: mapOf(1, math.MaxInt, 1), Cells: cells.New(9)},
		{Map: mapOf(math.MaxInt, 1, 1), Cells: cells.New(9)},
		{Map: mapOf(1<<61, 1, 1), Cells: cells.New(9)},
		{Map: mapOf(1, 1, 1<<61), Cells: cells.New(9)},
	} {
		for _, o := range []int{-1, 0, 1, 8, 1 << 40} {
			wantNoWord(t, g, o)
		}
		for _, u := range []int{-1, 0, 1, 3, 1 << 40} {
			for _, x := range []*task.Task{g.Begin(u), g.End(u), g.Sleep(u, false)} {
				for range 3 {
					x.Step(api.PickStep)
					x.Step(api.PickTime)
				}
			}
		}
		g.Act(0, 0, 0, 0)
		if l := g.Events(); len(l) != 1 {
			t.Errorf("Events = %v", l)
		}
	}
}
