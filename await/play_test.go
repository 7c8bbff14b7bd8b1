package await_test

import (
	"math"
	"slices"
	"testing"

	"doorkeeper/api"
	"doorkeeper/await"
	"doorkeeper/machine"
)

// calls are calls of an object.
func calls(o int, ops ...int) []api.Call {
	var l []api.Call
	for _, op := range ops {
		l = append(l, api.Call{Op: op, Obj: o})
	}
	return l
}

// called and returned are the events of a call.
func called(u, i int, c api.Call) api.Event {
	return api.Event{Kind: api.EvCall, Thread: u, Index: i, Act: c.Op, Obj: c.Obj, Other: c.Arg}
}

func returned(u, i int, code api.Errno, v int) api.Event {
	return api.Event{Kind: api.EvReturn, Thread: u, Index: i, Res: api.Result{Code: code, Value: v}}
}

// goesOn picks a thread until it can't go on.
func goesOn(t *testing.T, m *machine.Machine, u int) {
	t.Helper()
	for n := 0; m.Pick(api.Pick{Thread: u}); n++ {
		if n == 1000 {
			t.Fatalf("the thread %d goes on and on", u)
		}
	}
}

// wantValues tests the values of a thread's calls.
func wantValues(t *testing.T, m *machine.Machine, u int, want ...int) {
	t.Helper()
	if got := m.Values(u); !slices.Equal(got, want) {
		t.Fatalf("Values(%d) = %v, want %v", u, got, want)
	}
}

// wantLogged tests the log from the event i on.
func (x *scene) wantLogged(i int, events ...api.Event) {
	x.Helper()
	if got := x.Events()[i:]; !slices.Equal(got, events) {
		x.Fatalf("logged is %v, want %v", got, events)
	}
}

// The chapter's examples.
func TestExamples(t *testing.T) {
	const enter, exit, wait, timed, notify = api.OpEnter, api.OpExit, api.OpWait, api.OpTimed, api.OpNotify
	interrupt := []api.Call{{Op: api.OpInterrupt, Arg: 0}}
	for _, e := range []struct {
		name   string
		lists  [][]api.Call
		picks  []api.Pick
		values [][]int
	}{
		{
			"notified", [][]api.Call{calls(0, enter, enter, wait, exit, exit), calls(0, enter, notify, exit)},
			[]api.Pick{{Thread: 0}, {Thread: 1}, {Thread: 0}},
			[][]int{{ok, ok, api.HowNotified, ok, ok}, {ok, ok, ok}},
		},
		{"not the owner", [][]api.Call{calls(0, wait, notify), nil}, []api.Pick{{Thread: 0}}, [][]int{{refused, refused}, nil}},
		{"interrupted", [][]api.Call{calls(0, enter, wait, exit), interrupt}, []api.Pick{{Thread: 1}, {Thread: 0}}, [][]int{{ok, api.HowInterrupted, ok}, {ok}}},
		{"time", [][]api.Call{calls(0, enter, timed), nil}, []api.Pick{{Thread: 0}, {Thread: 0, Kind: api.PickTime}, {Thread: 0}}, [][]int{{ok, api.HowTimed}, nil}},
	} {
		for _, k := range kinds {
			g := k.make(mapOf(2, 1, 1), nil, nil)
			fatten(g, spot{})
			m := await.Play(g, 0, 0, 0, e.lists)
			for _, p := range e.picks {
				if p.Kind == api.PickStep {
					goesOn(t, m, p.Thread)
				} else if !m.Pick(p) {
					t.Errorf("%s, %s: no step %v", e.name, k.name, p)
				}
			}
			for u, want := range e.values {
				if got := m.Values(u); !slices.Equal(got, want) || !m.Over() {
					t.Errorf("%s, %s: Values(%d) = %v, Over = %v, want %v", e.name, k.name, u, got, m.Over(), want)
				}
			}
		}
	}
}

// P16.3: Play

// Play does all operations at the monitor, each with its acts.
func TestPlay(t *testing.T) {
	x := newScene(t)
	o := x.o
	m := await.Play(x.Ground, x.o, x.n, x.gen, [][]api.Call{
		calls(o, api.OpEnter, api.OpHolds, api.OpTimed, api.OpExit), nil, calls(o, api.OpEnter, api.OpWait, api.OpExit),
		append(calls(o, api.OpEnter, api.OpNotify, api.OpWait, api.OpExit), api.Call{Op: api.OpInterrupt, Obj: o, Arg: 2}),
		calls(o, api.OpEnter, api.OpAll, api.OpExit),
	})
	goesOn(t, m, 0)
	goesOn(t, m, 2)
	if !m.Can(api.Pick{Thread: 0, Kind: api.PickTime}) || m.Can(api.Pick{Thread: 2, Kind: api.PickTime}) {
		t.Fatal("OpTimed waits without a time, or OpWait with one")
	}
	for _, u := range []int{3, 0, 4, 2, 3} {
		goesOn(t, m, u)
	}
	if !m.Over() || m.Threads() != 5 {
		t.Fatalf("%d threads, Over = %v", m.Threads(), m.Over())
	}
	wantValues(t, m, 0, ok, 1, api.HowNotified, ok)
	wantValues(t, m, 1)
	wantValues(t, m, 2, ok, api.HowNotified, ok)
	wantValues(t, m, 3, ok, ok, api.HowNotified, ok, ok)
	wantValues(t, m, 4, ok, ok, ok)
	x.wantActs(
		x.act(0, api.ActEnter, 0), x.act(0, api.ActLook, 1), x.act(0, api.ActRelease, 0),
		x.act(2, api.ActEnter, 0), x.act(2, api.ActRelease, 0),
		x.act(3, api.ActEnter, 0), x.act(3, api.ActNotify, 0), x.act(3, api.ActRelease, 0), x.act(0, api.ActGrant, 0), x.act(0, api.ActExit, 0),
		x.act(4, api.ActEnter, 0), x.act(4, api.ActNotify, 2), x.act(4, api.ActNotify, 3), x.act(4, api.ActNotify, -1),
		x.act(4, api.ActExit, 0), x.act(2, api.ActGrant, 0), x.act(2, api.ActExit, 0), x.act(3, api.ActGrant, 0), x.act(3, api.ActExit, 0),
		x.act(3, api.ActInterrupt, 2),
	)
	if x.b.cells[x.Flag(2)] != 1 {
		t.Fatal("the flag is down")
	}
}

// wantActs tests which acts were logged.
func (x *scene) wantActs(want ...api.Event) {
	x.Helper()
	got := slices.DeleteFunc(x.Events(), func(e api.Event) bool { return e.Kind != api.EvAct })
	if !slices.Equal(got, want) {
		x.Fatalf("acts %v, want %v", got, want)
	}
}

// A call is logged when it comes, and its return in the step of its End; its task lies between Begin and End.
func TestPlayLogsCalls(t *testing.T) {
	for op := range api.Ops {
		x := newScene(t)
		c := api.Call{Op: op, Obj: x.o, Arg: 2}
		m := await.Play(x.Ground, x.o, x.n, x.gen, [][]api.Call{nil, {c}})
		x.wantLogged(0, called(1, 0, c))
		var done []operation
		for !m.Over() {
			x.b.done = nil
			m.Pick(api.Pick{Thread: 1})
			done = append(done, x.b.done...)
			if l := x.Events(); !m.Over() && l[len(l)-1].Kind == api.EvReturn {
				t.Fatalf("operation %d: the log is %v", op, l)
			}
		}
		l := x.Events()
		want := returned(1, 0, api.Unpacked(m.Values(1)[0]).Code, 0)
		if l[len(l)-1] != want || done[0] != x.begins(1) || done[len(done)-1] != x.ends(1) {
			t.Fatalf("operation %d: it does %v, and the log is %v", op, done, l)
		}
	}
}

// Other operations are none of these: they do nothing. Neither does an interruption of a thread that does not exist.
func TestPlayOfWrongCalls(t *testing.T) {
	var l []api.Call
	for _, op := range []int{api.OpDeflate, api.Ops, -1, 1 << 32, math.MinInt, math.MaxInt} {
		l = append(l, api.Call{Op: op, Obj: here.o, Arg: 1})
	}
	for _, u := range notThere(few.Threads) {
		l = append(l, api.Call{Op: api.OpInterrupt, Obj: here.o, Arg: u})
	}
	for _, c := range l {
		x := newCrowd(t, crowds[len(crowds)-1], 1, 2)
		x.b.cells[x.Safe(1)] = api.SafeOut
		before := slices.Clone(x.b.cells)
		m := await.Play(x.Ground, x.o, x.n, x.gen, [][]api.Call{nil, {c}})
		if !m.Pick(api.Pick{Thread: 1}) || !m.Pick(api.Pick{Thread: 1}) || !m.Over() {
			t.Fatalf("%v takes more than Begin and End, or less", c)
		}
		wantValues(t, m, 1, argument)
		x.wantSame(before, nil)
		x.wantLogged(0, called(1, 0, c), returned(1, 0, api.ErrArg, 0))
	}
}

// What calls do is done to the object of Play, whatever Obj they have; they are logged as they are.
func TestPlayOfAnyObject(t *testing.T) {
	for _, o := range []int{0, 2, 9, -4, math.MaxInt} {
		x := newScene(t)
		first := append(calls(o, api.OpEnter, api.OpNotify, api.OpAll, api.OpTimed, api.OpWait, api.OpExit, api.OpWait), api.Call{Op: api.OpInterrupt, Obj: o, Arg: 3})
		m := await.Play(x.Ground, x.o, x.n, x.gen, [][]api.Call{first, {{Op: api.OpInterrupt, Obj: o, Arg: 0}, {Op: api.OpHolds, Obj: o}}})
		goesOn(t, m, 0)
		x.wantView(-1, 0, 0)
		goesOn(t, m, 1)
		m.Pick(api.Pick{Thread: 0})
		goesOn(t, m, 0)
		x.wantView(-1, 0, 0)
		m.Pick(api.Pick{Thread: 0, Kind: api.PickSpurious})
		goesOn(t, m, 0)
		x.wantActs(
			x.act(0, api.ActEnter, 0), x.act(0, api.ActNotify, -1), x.act(0, api.ActNotify, -1), x.act(0, api.ActRelease, 0),
			x.act(1, api.ActInterrupt, 0), x.act(1, api.ActLook, 0),
			x.act(0, api.ActClear, 0), x.act(0, api.ActLeave, api.HowInterrupted), x.act(0, api.ActGrant, 0), x.act(0, api.ActRelease, 0),
			x.act(0, api.ActLeave, api.HowSpurious), x.act(0, api.ActGrant, 0), x.act(0, api.ActExit, 0), x.act(0, api.ActRefuse, int(api.ErrOwner)),
			x.act(0, api.ActInterrupt, 3),
		)
		for _, e := range x.Events() {
			if e.Kind == api.EvCall && e.Obj != o {
				t.Fatalf("the log has %v", e)
			}
		}
		wantValues(t, m, 0, ok, ok, ok, api.HowInterrupted, api.HowSpurious, ok, refused, ok)
		wantValues(t, m, 1, ok, 0)
	}
}

// With another generation, calls are stale, without an act, but for interruptions, which need no monitor.
func TestPlayOfAnotherGeneration(t *testing.T) {
	x := newScene(t).owned(0, 2)
	ops := []int{api.OpEnter, api.OpExit, api.OpWait, api.OpTimed, api.OpNotify, api.OpAll, api.OpHolds, api.OpInterrupt}
	m := await.Play(x.Ground, x.o, x.n, x.gen+1, [][]api.Call{calls(x.o, ops...)})
	for n := 0; !m.Over() && n < 100; n++ {
		m.Pick(api.Pick{})
		x.wantView(0, 2)
	}
	wantValues(t, m, 0, stale, stale, stale, stale, stale, stale, stale, ok)
	x.wantActs(x.act(0, api.ActInterrupt, 0))
}

// Whoever changes the lists afterwards changes nothing; there is one thread for each list, and no machine without a ground.
func TestListsOfPlay(t *testing.T) {
	x := newScene(t)
	lists := [][]api.Call{calls(x.o, api.OpEnter, api.OpNotify, api.OpExit), calls(x.o, api.OpAll)}
	m := await.Play(x.Ground, x.o, x.n, x.gen, lists)
	lists[0][1], lists[0][2], lists[1] = api.Call{Op: 77}, api.Call{Op: 77}, nil
	goesOn(t, m, 0)
	goesOn(t, m, 1)
	wantValues(t, m, 0, ok, ok, ok)
	wantValues(t, m, 1, refused)
	for n := range few.Threads {
		if m := await.Play(x.Ground, x.o, x.n, x.gen, make([][]api.Call, n)); m == nil || m.Threads() != n || !m.Over() {
			t.Fatalf("%d threads, want %d", m.Threads(), n)
		}
	}
	if await.Play(nil, 0, 0, 0, lists) != nil {
		t.Fatal("a machine without a ground")
	}
}

// More lists than threads, or numbers of nothing, end all the same.
func TestPlayOfNothing(t *testing.T) {
	ops := []int{api.OpEnter, api.OpWait, api.OpTimed, api.OpNotify, api.OpAll, api.OpInterrupt, api.OpExit}
	lists := make([][]api.Call, few.Threads+2)
	for u := range lists {
		lists[u] = calls(here.o, ops...)
	}
	x := newScene(t)
	m := await.Play(x.Ground, x.o, x.n, x.gen, lists)
	for u := few.Threads; u < len(lists); u++ {
		wantValues(t, m, u, slices.Repeat([]int{argument}, len(ops))...)
	}
	for _, at := range []spot{{here.o, few.Monitors, 0}, {here.o, -1, 0}, {few.Objects, here.n, here.gen}, {-1, here.n, here.gen}, {here.o, math.MaxInt, 0}} {
		x := newScene(t)
		m := await.Play(x.Ground, at.o, at.n, at.gen, [][]api.Call{calls(here.o, api.OpWait, api.OpTimed, api.OpNotify, api.OpAll)})
		goesOn(t, m, 0)
		wantValues(t, m, 0, argument, argument, argument, argument)
		x.wantActs()
	}
}
