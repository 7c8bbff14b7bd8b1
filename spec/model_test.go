package spec_test

import (
	"fmt"
	"math"
	"slices"
	"testing"

	"doorkeeper/api"
	"doorkeeper/spec"
)

// deed is an act, without the thread and the object.
type deed struct{ act, other int }

// chronicle is the automaton as the chapter's definitions have it: all it knows are the events so far.
type chronicle struct {
	threads, objects int
	log              []api.Event
}

// calls is how many calls the thread has had.
func (c chronicle) calls(t int) int {
	n := 0
	for _, e := range c.log {
		if e.Thread == t && e.Kind == api.EvCall {
			n++
		}
	}
	return n
}

// open returns the open call, and where it stands in the log.
func (c chronicle) open(t int) (call api.Call, at int, is bool) {
	for i, e := range c.log {
		switch {
		case e.Thread != t:
		case e.Kind == api.EvCall:
			call, at, is = api.Call{Op: e.Act, Obj: e.Obj, Arg: e.Other}, i, true
		case e.Kind == api.EvReturn:
			call, at, is = api.Call{}, 0, false
		}
	}
	return call, at, is
}

// acts are those of the open call.
func (c chronicle) acts(t int) []deed {
	_, at, is := c.open(t)
	if !is {
		return nil
	}
	var l []deed
	for _, e := range c.log[at:] {
		if e.Thread == t && e.Kind == api.EvAct {
			l = append(l, deed{e.Act, e.Other})
		}
	}
	return l
}

// did tells whether the open call has this act, of any Other.
func (c chronicle) did(t, act int) bool {
	return slices.ContainsFunc(c.acts(t), func(d deed) bool { return d.act == act })
}

// notified tells whether the thread was woken by a notification in its open call.
func (c chronicle) notified(t int) bool {
	_, at, is := c.open(t)
	return is && slices.ContainsFunc(c.log[at:], func(e api.Event) bool {
		return e.Kind == api.EvAct && e.Act == api.ActNotify && e.Other == t
	})
}

// owner returns the owner of the object, and how deep it is.
func (c chronicle) owner(o int) (owner, depth int) {
	owner = -1
	saved := map[int]int{}
	for _, e := range c.log {
		if e.Kind != api.EvAct || e.Obj != o {
			continue
		}
		switch e.Act {
		case api.ActEnter:
			owner, depth = e.Thread, depth+1
		case api.ActExit:
			depth--
		case api.ActRelease:
			saved[e.Thread], depth = depth, 0
		case api.ActGrant:
			owner, depth = e.Thread, saved[e.Thread]
		}
		if depth == 0 {
			owner = -1
		}
	}
	return owner, depth
}

// waits are the threads that wait for the object, in the order in which they released it.
func (c chronicle) waits(o int) []int {
	var l []int
	for _, e := range c.log {
		if e.Kind != api.EvAct || e.Obj != o || e.Act != api.ActRelease {
			continue
		}
		// A thread may have released it in an earlier call, too; the last time counts.
		l = slices.DeleteFunc(l, func(t int) bool { return t == e.Thread })
		l = append(l, e.Thread)
	}
	return slices.DeleteFunc(l, func(t int) bool {
		call, _, is := c.open(t)
		return !is || call.Obj != o || !c.did(t, api.ActRelease) || c.did(t, api.ActLeave) || c.notified(t)
	})
}

// longest is the thread that a notification wakes, or -1.
func (c chronicle) longest(o int) int {
	for _, t := range c.waits(o) {
		if !c.did(t, api.ActClear) {
			return t
		}
	}
	return -1
}

func (c chronicle) view(o int) api.View {
	owner, depth := c.owner(o)
	l := c.waits(o)
	slices.Sort(l)
	return api.View{Owner: owner, Depth: depth, Waiting: l}
}

func (c chronicle) flag(t int) bool {
	flag := false
	for _, e := range c.log {
		if e.Kind == api.EvAct && e.Act == api.ActInterrupt && e.Other == t {
			flag = true
		}
		if e.Kind == api.EvAct && e.Act == api.ActClear && e.Thread == t {
			flag = false
		}
	}
	return flag
}

func (c chronicle) valid(call api.Call) bool {
	is := call.Op >= api.OpEnter && call.Op <= api.OpDeflate && call.Obj >= 0 && call.Obj < c.objects
	return is && !(call.Op == api.OpInterrupt && (call.Arg < 0 || call.Arg >= c.threads))
}

// refusal is the act of a refused call.
func refusal(e api.Errno) deed { return deed{api.ActRefuse, int(e)} }

// good and bad are the one result that a call returns.
func good(value int) []api.Result     { return []api.Result{{Value: value}} }
func bad(code api.Errno) []api.Result { return []api.Result{{Code: code}} }

// when returns the acts, if the condition holds.
func when(is bool, l ...deed) []deed {
	if is {
		return l
	}
	return nil
}

func one(is bool) int {
	if is {
		return 1
	}
	return 0
}

// next returns the acts that the open call of the thread may have next, and what it may return.
func (c chronicle) next(t int) (acts []deed, returns []api.Result) {
	call, _, is := c.open(t)
	if !is {
		return nil, nil
	}
	if !c.valid(call) {
		return nil, bad(api.ErrArg)
	}
	done := c.acts(t)
	if n := len(done); n > 0 && done[n-1].act == api.ActRefuse {
		return nil, bad(api.Errno(done[n-1].other))
	}
	owner, _ := c.owner(call.Obj)
	owns := owner == t
	switch call.Op {
	case api.OpWait, api.OpTimed:
		return c.nextOfWait(t, call, done, owns)
	case api.OpAll:
		if len(done) > 0 && done[len(done)-1].other == -1 {
			return nil, good(0)
		}
		return append(when(owns, deed{api.ActNotify, c.longest(call.Obj)}), when(!owns && len(done) == 0, refusal(api.ErrOwner))...), nil
	case api.OpHolds:
		if len(done) > 0 {
			return nil, good(done[0].other)
		}
		return []deed{{api.ActLook, one(owns)}}, nil
	case api.OpDeflate:
		return when(len(done) == 0, deed{api.ActNone, 0}), good(0)
	}
	if len(done) > 0 {
		return nil, good(0)
	}
	switch call.Op {
	case api.OpEnter:
		acts = append(when(owns || owner == -1, deed{api.ActEnter, 0}), when(owns, refusal(api.ErrDepth))...)
		acts = append(acts, refusal(api.ErrFull))
	case api.OpExit:
		acts = append(when(owns, deed{api.ActExit, 0}), when(!owns, refusal(api.ErrOwner))...)
	case api.OpNotify:
		acts = append(when(owns, deed{api.ActNotify, c.longest(call.Obj)}), when(!owns, refusal(api.ErrOwner))...)
	case api.OpInterrupt:
		acts = []deed{{api.ActInterrupt, call.Arg}}
	}
	return acts, nil
}

// nextOfWait is next of a wait, by the acts that it has done.
func (c chronicle) nextOfWait(t int, call api.Call, done []deed, owns bool) ([]deed, []api.Result) {
	owner, _ := c.owner(call.Obj)
	granted := func(how int) ([]deed, []api.Result) {
		if done[len(done)-1].act == api.ActGrant {
			return nil, good(how)
		}
		return when(owner == -1, deed{api.ActGrant, 0}), nil
	}
	switch {
	case len(done) == 0:
		acts := append(when(!owns, refusal(api.ErrOwner)), refusal(api.ErrFull))
		acts = append(acts, when(owns && c.flag(t), deed{api.ActClear, 0})...)
		return append(acts, when(owns, deed{api.ActRelease, 0})...), nil
	case done[0].act == api.ActClear:
		return nil, good(api.HowInterrupted)
	case c.notified(t):
		return granted(api.HowNotified)
	case len(done) == 1:
		acts := append(when(c.flag(t), deed{api.ActClear, 0}), deed{api.ActLeave, api.HowSpurious})
		return append(acts, when(call.Op == api.OpTimed, deed{api.ActLeave, api.HowTimed})...), nil
	case done[1].act == api.ActLeave:
		return granted(done[1].other)
	case len(done) == 2:
		return []deed{{api.ActLeave, api.HowInterrupted}}, nil
	}
	return granted(api.HowInterrupted)
}

// may tells of any event whether it is possible, from what next tells of each thread.
type may struct {
	chronicle
	acts    map[int][]deed
	returns map[int][]api.Result
	objs    map[int]int
	count   map[int]int
	isOpen  map[int]bool
}

func (c chronicle) may() may {
	m := may{c, map[int][]deed{}, map[int][]api.Result{}, map[int]int{}, map[int]int{}, map[int]bool{}}
	for t := range c.threads {
		call, _, is := c.open(t)
		m.acts[t], m.returns[t] = c.next(t)
		m.objs[t], m.isOpen[t], m.count[t] = call.Obj, is, c.calls(t)
	}
	return m
}

func (m may) take(e api.Event) bool {
	t, none := e.Thread, api.Result{}
	if t < 0 || t >= m.threads {
		return false
	}
	switch e.Kind {
	case api.EvCall:
		return !m.isOpen[t] && e.Index == m.count[t] && e.Res == none
	case api.EvAct:
		return e.Obj == m.objs[t] && e.Index == 0 && e.Res == none && slices.Contains(m.acts[t], deed{e.Act, e.Other})
	case api.EvReturn:
		return e.Index == m.count[t]-1 && e.Act == 0 && e.Obj == 0 && e.Other == 0 && slices.Contains(m.returns[t], e.Res)
	}
	return false
}

// with is the chronicle, one event longer.
func (c chronicle) with(e api.Event) chronicle {
	c.log = append(slices.Clip(c.log), e)
	return c
}

// key is the same for chronicles that differ in nothing but what is past.
func (c chronicle) key() string {
	s := ""
	for o := range c.objects {
		owner, depth := c.owner(o)
		s += fmt.Sprint(owner, depth, c.waits(o), "|")
	}
	for t := range c.threads {
		call, at, is := c.open(t)
		saved := 0
		if c.did(t, api.ActRelease) {
			// How deep it was when it released.
			i := at + slices.IndexFunc(c.log[at:], func(e api.Event) bool { return e.Thread == t && e.Act == api.ActRelease && e.Kind == api.EvAct })
			_, saved = chronicle{c.threads, c.objects, c.log[:i]}.owner(call.Obj)
		}
		s += fmt.Sprint(is, call, c.acts(t), c.notified(t), saved, c.flag(t), "|")
	}
	return s
}

// wantState tests what can be seen of the automaton.
func wantState(t *testing.T, s *spec.Spec, c chronicle) {
	t.Helper()
	for o := range c.objects {
		if got, want := s.View(o), c.view(o); !same(got, want) {
			t.Fatalf("View(%d) = %v, want %v, after %v", o, got, want, c.log)
		}
	}
	for u := range c.threads {
		if got, want := s.Flag(u), c.flag(u); got != want {
			t.Fatalf("Flag(%d) = %v, after %v", u, got, c.log)
		}
		got, is := s.Open(u)
		if want, _, wantIs := c.open(u); got != want || is != wantIs {
			t.Fatalf("Open(%d) = %v %v, want %v %v, after %v", u, got, is, want, wantIs, c.log)
		}
	}
}

// same tells whether two views are the same.
func same(a, b api.View) bool {
	return a.Owner == b.Owner && a.Depth == b.Depth && slices.Equal(a.Waiting, b.Waiting)
}

// wantTaken tests for all these events whether they are possible, and what those that are change; it returns the automata and the chronicles behind these. Those that are not are all taken by s itself, which may not change.
func wantTaken(t *testing.T, s *spec.Spec, c chronicle, events []api.Event) (to []*spec.Spec, then []chronicle) {
	t.Helper()
	m := c.may()
	for _, e := range events {
		if !m.take(e) {
			if s.Take(e) {
				t.Fatalf("%+v is taken after %v", e, c.log)
			}
			continue
		}
		copied, after := s.Copy(), c.with(e)
		if !copied.Take(e) {
			t.Fatalf("%+v is not taken after %v", e, c.log)
		}
		wantState(t, copied, after)
		to, then = append(to, copied), append(then, after)
	}
	wantState(t, s, c)
	return to, then
}

// near are the events around what the threads may do next: these calls, all acts with many Others, and all results.
func near(c chronicle, calls func(u int) []api.Call) []api.Event {
	var l []api.Event
	for u := range c.threads {
		call, _, _ := c.open(u)
		n := c.calls(u)
		for _, x := range calls(u) {
			l = append(l, api.Event{Kind: api.EvCall, Thread: u, Index: n, Act: x.Op, Obj: x.Obj, Other: x.Arg})
		}
		for act := range api.Acts {
			for other := -1; other <= int(api.ErrDepth); other++ {
				l = append(l, api.Event{Kind: api.EvAct, Thread: u, Act: act, Obj: call.Obj, Other: other})
			}
		}
		for code := api.OK; code <= api.ErrDepth; code++ {
			for value := range api.Hows + 1 {
				l = append(l, api.Event{Kind: api.EvReturn, Thread: u, Index: n - 1, Res: api.Result{Code: code, Value: value}})
			}
		}
	}
	return l
}

// wantAllStates goes through all states that so many threads reach by these calls of one object, as long as nobody is deeper in it; it returns how many there are.
func wantAllStates(t *testing.T, threads, deep int, calls func(u int) []api.Call) int {
	start := chronicle{threads: threads, objects: 1}
	specs, chronicles := []*spec.Spec{spec.New(threads, 1)}, []chronicle{start}
	seen := map[string]bool{start.key(): true}
	for i := 0; i < len(specs); i++ {
		to, then := wantTaken(t, specs[i], chronicles[i], near(chronicles[i], calls))
		for j, c := range then {
			_, depth := c.owner(0)
			if k := c.key(); !seen[k] && depth <= deep {
				seen[k] = true
				specs, chronicles = append(specs, to[j]), append(chronicles, c)
			}
		}
	}
	return len(seen)
}

// P12.1, P12.2: all that two threads can do with an object, as long as nobody is more than two deep in it.
func TestAllStatesOfTwoThreads(t *testing.T) {
	n := wantAllStates(t, 2, 2, func(u int) []api.Call {
		l := []api.Call{{Op: api.OpInterrupt, Arg: 1}, {Op: api.OpEnter, Obj: 1}}
		for op := range api.Ops {
			l = append(l, api.Call{Op: op})
		}
		return l
	})
	if n < 20000 {
		t.Errorf("%d states", n)
	}
}

// P12.1, P12.2: all waits of three threads, the last of which does not wait, but notifies the two others, and interrupts the first one; nobody is more than one deep.
func TestAllStatesOfTwoWaits(t *testing.T) {
	n := wantAllStates(t, 3, 1, func(u int) []api.Call {
		l := []api.Call{{Op: api.OpEnter}, {Op: api.OpExit}}
		if u == 2 {
			return append(l, api.Call{Op: api.OpNotify}, api.Call{Op: api.OpAll}, api.Call{Op: api.OpInterrupt})
		}
		return append(l, api.Call{Op: api.OpTimed})
	})
	if n < 10000 {
		t.Errorf("%d states", n)
	}
}

// chance makes numbers below others, with mixed bits, the same ones in each run.
func chance(state uint64) func(n int) int {
	return func(n int) int {
		state += 0x9e3779b97f4a7c15
		z := (state ^ state>>30) * 0xbf58476d1ce4e5b9
		z = (z ^ z>>27) * 0x94d049bb133111eb
		return int((z ^ z>>31) % uint64(n))
	}
}

// anyCall is a call of the thread that is mostly of use: of what it owns, if it owns something.
func (c chronicle) anyCall(next func(n int) int, u int) api.Call {
	call := api.Call{Op: api.OpEnter, Obj: next(c.objects), Arg: next(c.threads)}
	if owner, _ := c.owner(call.Obj); owner == u {
		call.Op = []int{api.OpExit, api.OpExit, api.OpWait, api.OpTimed, api.OpTimed, api.OpNotify, api.OpNotify, api.OpAll}[next(8)]
	}
	switch next(8) {
	case 0:
		call.Op = next(api.Ops)
	case 1:
		call.Op = api.OpInterrupt
	case 2:
		if next(4) == 0 {
			call = api.Call{Op: next(api.Ops+2) - 1, Obj: next(c.objects+2) - 1, Arg: next(c.threads+2) - 1}
		}
	}
	return call
}

// rare is how many times more seldom than other acts anyEvent has this one: so threads get on, and are there to be notified.
func rare(act int) int {
	switch act {
	case api.ActRefuse:
		return 48
	case api.ActLeave, api.ActClear:
		return 12
	}
	return 1
}

// anyEvent is one that is possible next.
func (c chronicle) anyEvent(next func(n int) int) api.Event {
	for {
		u := next(c.threads)
		call, _, is := c.open(u)
		acts, returns := c.next(u)
		switch {
		case !is:
			call = c.anyCall(next, u)
			return api.Event{Kind: api.EvCall, Thread: u, Index: c.calls(u), Act: call.Op, Obj: call.Obj, Other: call.Arg}
		case len(returns) > 0 && (len(acts) == 0 || next(2) == 0):
			return api.Event{Kind: api.EvReturn, Thread: u, Index: c.calls(u) - 1, Res: returns[0]}
		case len(acts) > 0:
			if d := acts[next(len(acts))]; next(rare(d.act)) == 0 {
				return api.Event{Kind: api.EvAct, Thread: u, Act: d.act, Obj: call.Obj, Other: d.other}
			}
		}
	}
}

// changed are the event, and the same with each of its fields changed, one at a time.
func changed(e api.Event) []api.Event {
	l := []api.Event{e}
	for field := range 8 {
		for _, v := range []int{math.MinInt, -1 << 32, -1, 0, 1, 2, 3, 4, 5, 6, 7, 8, 9, 10, 11, 12, 1 << 32, math.MaxInt} {
			x := e
			p := []*int{&x.Kind, &x.Thread, &x.Index, &x.Act, &x.Obj, &x.Other, &x.Res.Value, (*int)(&x.Res.Code)}[field]
			was := *p
			*p = v
			l = append(l, x)
			if v == 1 || v == -1 {
				*p = was + v
				l = append(l, x)
			}
		}
	}
	return l
}

// P12.1, P12.2: more threads, and more objects, with all events that differ from a possible one in a field.
func TestAutomataAreAsTheChronicle(t *testing.T) {
	done := map[int]int{}
	for seed := range 80 {
		next := chance(uint64(seed))
		c := chronicle{threads: 1 + next(7), objects: 1 + next(3)}
		s := spec.New(c.threads, c.objects)
		for range 150 {
			e := c.anyEvent(next)
			wantTaken(t, s, c, changed(e))
			if !s.Take(e) {
				t.Fatalf("%+v is not taken after %v", e, c.log)
			}
			c = c.with(e)
			if e.Kind == api.EvAct && (e.Act != api.ActNotify || e.Other >= 0) {
				done[e.Act]++
			}
		}
	}
	for act := range api.Acts {
		if done[act] < 15 {
			t.Errorf("the act %d was done %d times", act, done[act])
		}
	}
}

// tally is what the acts of a log amount to, for an object, thread by thread.
type tally struct {
	// How often it entered, less how often it exited, or was granted; and that, when it last released the object.
	inside, saved map[int]int
	// The threads that can be notified, in the order in which they released the object.
	line []int
}

func (x *tally) add(t *testing.T, e api.Event) {
	gone := func(u int) { x.line = slices.DeleteFunc(x.line, func(v int) bool { return v == u }) }
	switch u := e.Thread; e.Act {
	case api.ActEnter:
		x.inside[u]++
	case api.ActExit:
		x.inside[u]--
	case api.ActRelease:
		x.saved[u], x.inside[u] = x.inside[u], 0
		x.line = append(x.line, u)
	case api.ActGrant:
		x.inside[u] = x.saved[u]
	case api.ActClear, api.ActLeave:
		gone(u)
	case api.ActNotify:
		if e.Other >= 0 && x.line[0] != e.Other || e.Other < 0 && len(x.line) > 0 {
			t.Fatalf("%d is woken, of %v", e.Other, x.line)
		}
		gone(e.Other)
	}
}

// wantOwners tests that owners are as deep as the tallies say, and that no thread waits for an object that it owns, or for two; it returns how many wait for one object.
func wantOwners(t *testing.T, s *spec.Spec, c chronicle, tallies []tally) int {
	t.Helper()
	waited, waitsFor := 0, map[int]int{}
	for o, x := range tallies {
		v := s.View(o)
		if (v.Owner == -1) != (v.Depth == 0) || !slices.IsSorted(v.Waiting) {
			t.Fatalf("the view %v after %v", v, c.log)
		}
		for u := range c.threads {
			if in := x.inside[u]; in < 0 || (in > 0) != (v.Owner == u) || in > 0 && in != v.Depth {
				t.Fatalf("the view %v, and %d is %d deep, after %v", v, u, in, c.log)
			}
		}
		for _, u := range v.Waiting {
			waitsFor[u]++
			if v.Owner == u || waitsFor[u] > 1 {
				t.Fatalf("%d waits, with the view %v, after %v", u, v, c.log)
			}
		}
		waited = max(waited, len(v.Waiting))
	}
	return waited
}

// P12.4: whatever is taken.
func TestOwnersAndWaitingThreads(t *testing.T) {
	waited := 0
	for seed := range 100 {
		next := chance(uint64(seed) + 1000)
		c := chronicle{threads: 2 + next(6), objects: 1 + next(3)}
		s := spec.New(c.threads, c.objects)
		tallies := make([]tally, c.objects)
		for o := range tallies {
			tallies[o] = tally{inside: map[int]int{}, saved: map[int]int{}}
		}
		for range 200 {
			e := c.anyEvent(next)
			if !s.Take(e) {
				t.Fatalf("%+v is not taken after %v", e, c.log)
			}
			c = c.with(e)
			if e.Kind == api.EvAct {
				tallies[e.Obj].add(t, e)
			}
			waited = max(waited, wantOwners(t, s, c, tallies))
		}
	}
	if waited < 4 {
		t.Errorf("no more than %d threads wait", waited)
	}
}
