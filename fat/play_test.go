package fat_test

import (
	"math"
	"slices"
	"testing"

	"doorkeeper/api"
	"doorkeeper/fat"
	"doorkeeper/machine"
	"doorkeeper/task"
)

// Calls, of the object of the scene.
var (
	in   = api.Call{Op: api.OpEnter, Obj: here.o}
	out  = api.Call{Op: api.OpExit, Obj: here.o}
	look = api.Call{Op: api.OpHolds, Obj: here.o}
)

// called and returned are the events of a call.
func called(u, i int, c api.Call) api.Event {
	return api.Event{Kind: api.EvCall, Thread: u, Index: i, Act: c.Op, Obj: c.Obj, Other: c.Arg}
}

func returned(u, i int, code api.Errno, v int) api.Event {
	return api.Event{Kind: api.EvReturn, Thread: u, Index: i, Res: api.Result{Code: code, Value: v}}
}

// pick lets the thread take a step by PickStep: it is this operation, or none if that is empty, and logs these events.
func (x *scene) pick(m *machine.Machine, u int, want operation, events ...api.Event) {
	x.Helper()
	log := len(x.Events())
	x.b.done = nil
	if !m.Pick(api.Pick{Thread: u}) {
		x.Fatalf("no step of the thread %d, want %v", u, want)
	}
	if done := x.b.done; want == (operation{}) && len(done) > 0 || want != (operation{}) && !slices.Equal(done, []operation{want}) {
		x.Fatalf("the step of the thread %d does %v, want %v", u, done, want)
	}
	x.wantLogged(log, events...)
}

// wantLogged tests the log from the event i on.
func (x *scene) wantLogged(i int, events ...api.Event) {
	x.Helper()
	if got := x.Events()[i:]; !slices.Equal(got, events) {
		x.Fatalf("logged is %v, want %v", got, events)
	}
}

// begins and ends are the operations of Begin and End.
func (x *scene) begins(u int) operation { return swap(x.Safe(u), api.SafeOut, api.SafeRunning) }
func (x *scene) ends(u int) operation   { return store(x.Safe(u), api.SafeOut) }

// wantValues tests the values of a thread's calls.
func (x *scene) wantValues(m *machine.Machine, u int, want ...int) {
	x.Helper()
	if got := m.Values(u); !slices.Equal(got, want) {
		x.Fatalf("Values(%d) = %v, want %v", u, got, want)
	}
}

// P14.5: Noted

// A call is logged when it comes, then is Begin, what do returns, and End, by which its return is logged; the next one comes in the same step.
func TestNoted(t *testing.T) {
	x := newScene(t)
	lists := [][]api.Call{{{Op: 5, Obj: 7, Arg: -3}, look}, {}, {out}}
	var asked []api.Call
	m := fat.Noted(x.Ground, lists, func(u int, c api.Call) *task.Task {
		asked = append(asked, c)
		return task.Seq(task.Store(x.Cells, x.Spare(u), 9), task.Ready(8*4+u))
	})
	if m.Threads() != 3 || !m.Done(1) || m.Done(0) || m.Done(2) {
		t.Fatalf("%d threads, Done = %v %v %v", m.Threads(), m.Done(0), m.Done(1), m.Done(2))
	}
	x.wantLogged(0, called(0, 0, lists[0][0]), called(2, 0, out))
	x.pick(m, 2, x.begins(2))
	x.pick(m, 0, x.begins(0))
	x.pick(m, 2, store(x.Spare(2), 9))
	x.wantValues(m, 2)
	x.pick(m, 2, x.ends(2), returned(2, 0, 4, 2))
	x.wantValues(m, 2, 34)
	x.pick(m, 0, store(x.Spare(0), 9))
	x.pick(m, 0, x.ends(0), returned(0, 0, 4, 0), called(0, 1, look))
	x.wantValues(m, 0, 32)
	x.pick(m, 0, x.begins(0))
	x.pick(m, 0, store(x.Spare(0), 9))
	x.pick(m, 0, x.ends(0), returned(0, 1, 4, 0))
	x.wantValues(m, 0, 32, 32)
	x.wantValues(m, 1)
	if !m.Over() || !slices.Equal(asked, []api.Call{out, lists[0][0], look}) {
		t.Fatalf("Over = %v, asked for %v", m.Over(), asked)
	}
}

// The value of a call is the number of its result, with which it returns; without a task it is 0.
func TestValuesOfNoted(t *testing.T) {
	for code := range api.LastErrno + 1 {
		for v := range 8 {
			x := newScene(t)
			m := fat.Noted(x.Ground, [][]api.Call{{in}}, func(int, api.Call) *task.Task { return task.Ready(int(code)*8 + v) })
			x.pick(m, 0, x.begins(0))
			x.pick(m, 0, x.ends(0), returned(0, 0, code, v))
			x.wantValues(m, 0, int(code)*8+v)
		}
	}
	for _, do := range []func(int, api.Call) *task.Task{nil, func(int, api.Call) *task.Task { return nil }} {
		x := newScene(t)
		m := fat.Noted(x.Ground, [][]api.Call{{in, out}}, do)
		x.pick(m, 0, x.begins(0))
		x.pick(m, 0, x.ends(0), returned(0, 0, api.OK, 0), called(0, 1, out))
		x.pick(m, 0, x.begins(0))
		x.pick(m, 0, x.ends(0), returned(0, 1, api.OK, 0))
		x.wantValues(m, 0, 0, 0)
	}
}

// A thread that is held does not begin, and neither does what do returns.
func TestNotedOfAThreadThatIsHeld(t *testing.T) {
	x := newScene(t)
	x.b.cells[x.Safe(0)] = api.SafeHeld
	m := fat.Noted(x.Ground, [][]api.Call{{in}}, func(u int, c api.Call) *task.Task { return task.Load(x.Cells, x.Spare(u)) })
	x.pick(m, 0, x.begins(0))
	x.pick(m, 0, x.begins(0))
	x.b.cells[x.Safe(0)] = api.SafeOut
	x.pick(m, 0, x.begins(0))
	x.pick(m, 0, load(x.Spare(0)))
	x.pick(m, 0, x.ends(0), returned(0, 0, api.OK, 0))
}

// Whoever changes the lists afterwards changes nothing.
func TestNotedKeepsNoLists(t *testing.T) {
	x := newScene(t)
	lists := [][]api.Call{{in, look, out}, {look}}
	m := fat.Play(x.Ground, x.o, x.n, x.gen, lists)
	lists[0][1], lists[0][2], lists[1] = out, api.Call{Op: 77}, nil
	for n := 0; !m.Over() && n < 100; n++ {
		m.Pick(api.Pick{})
	}
	for n := 0; !m.Over() && n < 100; n++ {
		m.Pick(api.Pick{Thread: 1})
	}
	x.wantValues(m, 0, ok, 1, ok)
	x.wantValues(m, 1, 0)
	if want := [][]api.Call{{in, out, {Op: 77}}, nil}; !slices.EqualFunc(lists, want, slices.Equal) {
		t.Fatalf("the lists are %v", lists)
	}
}

// There is one thread for each list, and none without a list; without a ground there is no machine.
func TestThreadsOfNoted(t *testing.T) {
	for n := range few.Threads + 1 {
		x := newScene(t)
		for _, m := range []*machine.Machine{fat.Noted(x.Ground, make([][]api.Call, n), nil), fat.Play(x.Ground, x.o, x.n, x.gen, make([][]api.Call, n))} {
			if m == nil || m.Threads() != n || !m.Over() {
				t.Fatalf("%d threads, want %d", m.Threads(), n)
			}
		}
	}
	if fat.Noted(nil, [][]api.Call{{in}}, nil) != nil || fat.Play(nil, 0, 0, 0, [][]api.Call{{in}}) != nil {
		t.Fatal("a machine without a ground")
	}
}

// More lists than threads, or numbers of nothing, end all the same.
func TestPlayOfNothing(t *testing.T) {
	lists := make([][]api.Call, few.Threads+2)
	for u := range lists {
		lists[u] = []api.Call{in, look, out}
	}
	x := newScene(t)
	m := fat.Play(x.Ground, x.o, x.n, x.gen, lists)
	for u := few.Threads; u < len(lists); u++ {
		x.wantValues(m, u, argument, argument, argument)
	}
	if len(m.Able()) != few.Threads {
		t.Fatalf("Able = %v", m.Able())
	}
	for _, at := range []spot{{here.o, few.Monitors, 0}, {here.o, -1, 0}, {few.Objects, here.n, here.gen}, {-1, here.n, here.gen}, {here.o, math.MaxInt, 0}} {
		x := newScene(t)
		m := fat.Play(x.Ground, at.o, at.n, at.gen, [][]api.Call{{in}})
		x.pick(m, 0, x.begins(0))
		x.pick(m, 0, x.ends(0), returned(0, 0, api.ErrArg, 0))
		x.wantValues(m, 0, argument)
	}
}

// P14.5: Play

// Play does Enter, Exit and Holds, each with its acts.
func TestPlay(t *testing.T) {
	x := newScene(t)
	m := fat.Play(x.Ground, x.o, x.n, x.gen, [][]api.Call{nil, {in, look, out, out, look}})
	x.wantLogged(0, called(1, 0, in))
	play := func(last operation, act api.Event, ret api.Event, next ...api.Event) {
		t.Helper()
		x.pick(m, 1, x.begins(1))
		x.pick(m, 1, x.takes(1))
		x.pick(m, 1, x.looks())
		switch {
		case act.Act == api.ActEnter:
			x.pick(m, 1, x.asks())
		case last != x.asks():
			x.pick(m, 1, x.asks())
			x.pick(m, 1, load(x.Entry(x.n)))
		}
		x.pick(m, 1, last, act)
		x.pick(m, 1, x.drops(1))
		x.pick(m, 1, x.ends(1), append([]api.Event{ret}, next...)...)
	}
	play(x.becomes(1, 1), x.act(1, api.ActEnter, 0), returned(1, 0, api.OK, 0), called(1, 1, look))
	play(x.asks(), x.act(1, api.ActLook, 1), returned(1, 1, api.OK, 1), called(1, 2, out))
	play(x.becomes(-1, 0), x.act(1, api.ActExit, 0), returned(1, 2, api.OK, 0), called(1, 3, out))
	play(x.asks(), x.act(1, api.ActRefuse, int(api.ErrOwner)), returned(1, 3, api.ErrOwner, 0), called(1, 4, look))
	play(x.asks(), x.act(1, api.ActLook, 0), returned(1, 4, api.OK, 0))
	x.wantValues(m, 1, ok, 1, ok, owner, 0)
	if !m.Over() {
		t.Fatal("it is not over")
	}
}

// Other operations are none of these: they do nothing.
func TestPlayOfOtherOperations(t *testing.T) {
	for _, op := range []int{api.OpWait, api.OpTimed, api.OpNotify, api.OpAll, api.OpInterrupt, api.OpDeflate, api.Ops, -1, 1 << 32, math.MinInt, math.MaxInt} {
		x := newScene(t).owned(0, 1)
		before := slices.Clone(x.b.cells)
		c := api.Call{Op: op, Obj: x.o, Arg: 1}
		m := fat.Play(x.Ground, x.o, x.n, x.gen, [][]api.Call{{c}})
		x.wantLogged(0, called(0, 0, c))
		x.pick(m, 0, x.begins(0))
		x.pick(m, 0, x.ends(0), returned(0, 0, api.ErrArg, 0))
		x.wantValues(m, 0, argument)
		x.wantSame(before, nil)
	}
}

// What calls do is done to the object of Play, whatever Obj they have; they are logged as they are.
func TestPlayOfAnyObject(t *testing.T) {
	for _, o := range []int{0, 2, 9, -4, math.MaxInt} {
		x := newScene(t)
		other := func(c api.Call) api.Call { return api.Call{Op: c.Op, Obj: o, Arg: 6} }
		m := fat.Play(x.Ground, x.o, x.n, x.gen, [][]api.Call{{other(in), other(look), other(out), other(out)}})
		for n := 0; len(m.Values(0)) < 1 && n < 10; n++ {
			m.Pick(api.Pick{})
		}
		x.wantView(0, 1)
		for n := 0; !m.Over() && n < 100; n++ {
			m.Pick(api.Pick{})
		}
		x.wantView(-1, 0)
		x.wantValues(m, 0, ok, 1, ok, owner)
		x.wantLogged(0,
			called(0, 0, other(in)), x.act(0, api.ActEnter, 0), returned(0, 0, api.OK, 0),
			called(0, 1, other(look)), x.act(0, api.ActLook, 1), returned(0, 1, api.OK, 1),
			called(0, 2, other(out)), x.act(0, api.ActExit, 0), returned(0, 2, api.OK, 0),
			called(0, 3, other(out)), x.act(0, api.ActRefuse, int(api.ErrOwner)), returned(0, 3, api.ErrOwner, 0),
		)
	}
}

// P14.2, P14.3, P14.7: with another generation, calls are stale, without an act.
func TestPlayOfAnotherGeneration(t *testing.T) {
	x := newScene(t).owned(0, 2)
	m := fat.Play(x.Ground, x.o, x.n, x.gen+1, [][]api.Call{{in, out, look}})
	for n := 0; !m.Over() && n < 100; n++ {
		m.Pick(api.Pick{})
		x.wantView(0, 2)
	}
	x.wantValues(m, 0, stale, stale, stale)
	x.wantLogged(0, called(0, 0, in), returned(0, 0, api.ErrStale, 0), called(0, 1, out), returned(0, 1, api.ErrStale, 0), called(0, 2, look), returned(0, 2, api.ErrStale, 0))
}
