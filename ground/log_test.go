package ground_test

import (
	"math"
	"slices"
	"sync"
	"testing"

	"doorkeeper/api"
	"doorkeeper/ground"
)

// numbers are some for the parts of events, whether they may be or not.
var numbers = []int{0, 1, 2, 7, -1, -9, 1 << 20, 1 << 40, math.MinInt, math.MaxInt}

// wantLog tests the log.
func wantLog(t *testing.T, g *ground.Ground, want []api.Event) {
	t.Helper()
	if got := g.Events(); !slices.Equal(got, want) {
		t.Fatalf("Events = %v, want %v", got, want)
	}
}

// P13.2: each part of an event is the one that is named, and all others are 0.
func TestEvents(t *testing.T) {
	twice(t, few, nil, nil, func(t *testing.T, g *ground.Ground) {
		g.Call(1, 2, api.Call{Op: 3, Obj: 4, Arg: 5})
		g.Act(6, 7, 8, 9)
		g.Return(10, 11, api.Result{Code: 12, Value: 13})
		g.Call(0, 0, api.Call{})
		g.Act(0, 0, 0, 0)
		g.Return(0, 0, api.Result{})
		wantLog(t, g, []api.Event{
			{Kind: 0, Thread: 1, Index: 2, Act: 3, Obj: 4, Other: 5},
			{Kind: 1, Thread: 6, Act: 7, Obj: 8, Other: 9},
			{Kind: 2, Thread: 10, Index: 11, Res: api.Result{Code: 12, Value: 13}},
			{Kind: 0}, {Kind: 1}, {Kind: 2},
		})
	})
}

// P13.2: events are in the order in which they were logged, whatever their numbers are, and to log them is no operation, and changes no permit.
func TestManyEvents(t *testing.T) {
	twice(t, few, nil, nil, func(t *testing.T, g *ground.Ground) {
		steps, all := g.Cells.Steps(), g.Cells.All()
		var want []api.Event
		for i, a := range numbers {
			for _, b := range numbers {
				c := numbers[(i+3)%len(numbers)]
				g.Call(a, b, api.Call{Op: c, Obj: b, Arg: a})
				g.Return(b, a, api.Result{Code: api.Errno(c), Value: b})
				g.Act(c, a, b, a)
				want = append(want,
					api.Event{Kind: api.EvCall, Thread: a, Index: b, Act: c, Obj: b, Other: a},
					api.Event{Kind: api.EvReturn, Thread: b, Index: a, Res: api.Result{Code: api.Errno(c), Value: b}},
					api.Event{Kind: api.EvAct, Thread: c, Act: a, Obj: b, Other: a},
				)
				wantLog(t, g, want)
			}
		}
		if g.Cells.Steps() != steps || !slices.Equal(g.Cells.All(), all) {
			t.Fatal("to log is an operation")
		}
		for u := range few.Threads {
			if g.Permits.Has(u) {
				t.Fatalf("the thread %d has a permit", u)
			}
		}
	})
}

// What Events returns belongs to the caller.
func TestEventsAreTheCallers(t *testing.T) {
	twice(t, few, nil, nil, func(t *testing.T, g *ground.Ground) {
		want := []api.Event{{Kind: api.EvAct, Thread: 1}, {Kind: api.EvAct, Thread: 2}}
		g.Act(1, 0, 0, 0)
		g.Act(2, 0, 0, 0)
		a, b := g.Events(), g.Events()
		a[0].Thread, a[1].Kind = 9, 9
		a = append(a, api.Event{Thread: 9})
		_ = append(a[:1], a[2:]...)
		if !slices.Equal(b, want) {
			t.Fatalf("two results share memory: %v", b)
		}
		wantLog(t, g, want)
		g.Act(3, 0, 0, 0)
		if !slices.Equal(b, want) {
			t.Fatalf("a result has changed: %v", b)
		}
		b = append(b, api.Event{Thread: 9})
		wantLog(t, g, append(want, api.Event{Kind: api.EvAct, Thread: 3}))
		if len(b) != 3 {
			t.Fatal(b)
		}
	})
}

// P13.2: with goroutines no event is lost, each one's are in its order, and a log that is read meanwhile is the beginning of the whole.
func TestConcurrentEvents(t *testing.T) {
	const goroutines, times = 8, 1500
	twice(t, few, nil, nil, func(t *testing.T, g *ground.Ground) {
		var all sync.WaitGroup
		seen := make([][]api.Event, goroutines)
		for u := range goroutines {
			all.Go(func() {
				for i := range times {
					g.Call(u, i, api.Call{Op: i})
					g.Act(u, i, 0, 0)
					g.Return(u, i, api.Result{Value: i})
					if i == times/2 {
						seen[u] = g.Events()
					}
				}
			})
		}
		all.Wait()
		whole := g.Events()
		if len(whole) != 3*goroutines*times {
			t.Fatalf("%d events, want %d", len(whole), 3*goroutines*times)
		}
		wantInOrder(t, whole)
		for u, l := range seen {
			if len(l) < 3*(times/2+1) || !slices.Equal(l, whole[:len(l)]) {
				t.Fatalf("the %d events that the thread %d saw are not the first ones", len(l), u)
			}
		}
	})
}

// wantInOrder tests that the events of each thread are calls, acts and returns in turn, numbered from 0 on.
func wantInOrder(t *testing.T, l []api.Event) {
	t.Helper()
	count := map[int]int{}
	for _, e := range l {
		n := count[e.Thread]
		i := n / 3
		want := []api.Event{
			{Kind: api.EvCall, Thread: e.Thread, Index: i, Act: i},
			{Kind: api.EvAct, Thread: e.Thread, Act: i},
			{Kind: api.EvReturn, Thread: e.Thread, Index: i, Res: api.Result{Value: i}},
		}[n%3]
		if e != want {
			t.Fatalf("the event %d of the thread %d is %v, want %v", n, e.Thread, e, want)
		}
		count[e.Thread]++
	}
}
