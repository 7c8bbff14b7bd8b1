package machine_test

import (
	"slices"
	"testing"

	"doorkeeper/api"
	"doorkeeper/cells"
	"doorkeeper/machine"
	"doorkeeper/permit"
	"doorkeeper/task"
)

// Forms of what a task does in one step.
const (
	doAdd = iota
	doSwap
	doLoad
	doPark
	forms
)

// deed is what a task does in one step, or, if it is a swap, in as many as it needs until it succeeds.
type deed struct {
	form, i int
	v       uint64
	timed   bool
}

// plan is what a task does, step by step; if it does nothing, it is done when it comes, with a value.
type plan struct {
	deeds []deed
	ready int
}

// task makes the task of a plan.
func (x plan) task(c *cells.Cells, p *permit.Permits) *task.Task {
	if len(x.deeds) == 0 {
		return task.Ready(x.ready)
	}
	var l []*task.Task
	for _, d := range x.deeds {
		switch d.form {
		case doAdd:
			l = append(l, task.Add(c, d.i, d.v))
		case doSwap:
			l = append(l, task.Spin(c, d.i, d.v, d.v+1))
		case doLoad:
			l = append(l, task.Load(c, d.i))
		case doPark:
			l = append(l, task.Park(p, d.i, d.timed))
		}
	}
	return task.Seq(l...)
}

// actor is a thread of the model: at which of its plans it is, and at which deed of that.
type actor struct {
	plans    []plan
	at, deed int
	values   []int
	// A thread that is made asks for its tasks; asked is what it was asked for.
	made  bool
	asked *tape
}

func (a *actor) done() bool { return a.at == len(a.plans) }

// settle goes past the plans of which nothing is left to do.
func (a *actor) settle() {
	for !a.done() && len(a.plans[a.at].deeds) == 0 {
		a.values = append(a.values, a.plans[a.at].ready)
		a.at++
	}
}

// current is the deed that comes next.
func (a *actor) current() deed { return a.plans[a.at].deeds[a.deed] }

// end ends the current deed, with a value.
func (a *actor) end(v int) {
	a.deed++
	if a.deed == len(a.plans[a.at].deeds) {
		a.values = append(a.values, v)
		a.at++
		a.deed = 0
		a.settle()
	}
}

// clear tells which values the thread has beyond doubt: behind the current task, none is done from its start.
func (a *actor) clear() bool {
	return a.made || a.done() || !slices.ContainsFunc(a.plans[a.at:], func(x plan) bool { return len(x.deeds) == 0 })
}

// wantAsked are the numbers of the tasks that the thread has asked for.
func (a *actor) wantAsked() []int {
	if !a.made {
		return nil
	}
	l := make([]int, a.at+1)
	for i := range l {
		l[i] = i
	}
	return l
}

// model is a machine, without tasks.
type model struct {
	actors  []*actor
	cells   []uint64
	permits []bool
	steps   int
}

func (w *model) there(thread int) bool {
	return thread >= 0 && thread < len(w.actors) && !w.actors[thread].done()
}

func (w *model) parked(thread int) bool {
	return w.there(thread) && w.actors[thread].current().form == doPark
}

func (w *model) can(p api.Pick) bool {
	switch {
	case !w.there(p.Thread):
		return false
	case !w.parked(p.Thread):
		return p.Kind == step
	case p.Kind == step:
		return w.permits[w.actors[p.Thread].current().i]
	case p.Kind == timed:
		return w.actors[p.Thread].current().timed
	}
	return p.Kind == spurious
}

func (w *model) pick(p api.Pick) bool {
	if !w.can(p) {
		return false
	}
	a := w.actors[p.Thread]
	d := a.current()
	if d.form == doPark {
		if p.Kind == step {
			w.permits[d.i] = false
		}
		a.end(p.Kind)
		return true
	}
	w.steps++
	switch d.form {
	case doAdd:
		w.cells[d.i] += d.v
	case doSwap:
		if w.cells[d.i] != d.v {
			return true
		}
		w.cells[d.i]++
		a.end(1)
		return true
	}
	a.end(int(w.cells[d.i]))
	return true
}

// chance makes numbers, the same ones in each run.
type chance func() uint64

func (next chance) upTo(n int) int { return int(next() % uint64(n)) }

// mixer yields numbers with mixed bits.
func mixer(state uint64) chance {
	return func() uint64 {
		state += 0x9e3779b97f4a7c15
		z := (state ^ state>>30) * 0xbf58476d1ce4e5b9
		z = (z ^ z>>27) * 0x94d049bb133111eb
		return z ^ z>>31
	}
}

const (
	cellsOfEach  = 2
	permitsThere = 3
)

func (next chance) plan() plan {
	x := plan{ready: next.upTo(5) - 2}
	for range next.upTo(4) {
		x.deeds = append(x.deeds, deed{form: next.upTo(forms), i: next.upTo(cellsOfEach), v: uint64(next.upTo(3)), timed: next.upTo(2) == 0})
	}
	return x
}

func (next chance) pick(threads int) api.Pick {
	kind := []int{step, step, step, step, timed, spurious, -1, 3}[next.upTo(8)]
	return api.Pick{Thread: next.upTo(threads+2) - 1, Kind: kind}
}

// match compares a machine with the model, pick by pick.
type match struct {
	*testing.T
	m *machine.Machine
	c *cells.Cells
	p *permit.Permits
	w model
}

func newMatch(t *testing.T) *match {
	x := &match{T: t, m: machine.New(), c: cells.New(cellsOfEach), p: permit.New(permitsThere)}
	x.w.cells = make([]uint64, cellsOfEach)
	x.w.permits = make([]bool, permitsThere)
	return x
}

// add adds a thread to both.
func (x *match) add(next chance) {
	x.Helper()
	a := &actor{made: next.upTo(2) == 0, asked: new(tape)}
	for range next.upTo(5) {
		a.plans = append(a.plans, next.plan())
	}
	a.settle()
	x.w.actors = append(x.w.actors, a)
	if a.made {
		wantNumber(x.T, x.m, x.m.Make(x.supply(a)), len(x.w.actors)-1)
		return
	}
	var l []*task.Task
	for _, y := range a.plans {
		l = append(l, y.task(x.c, x.p))
	}
	wantNumber(x.T, x.m, x.m.Add(l...), len(x.w.actors)-1)
}

// supply makes the tasks of a thread's plans when they are asked for.
func (x *match) supply(a *actor) func(i int) *task.Task {
	return func(i int) *task.Task {
		a.asked.note(i)
		if i >= len(a.plans) {
			return nil
		}
		return a.plans[i].task(x.c, x.p)
	}
}

// compare tests that the machine is where the model is.
func (x *match) compare() {
	x.Helper()
	over := true
	var able []int
	for thread := -1; thread <= len(x.w.actors); thread++ {
		for kind := -1; kind <= 3; kind++ {
			p := api.Pick{Thread: thread, Kind: kind}
			if want := x.w.can(p); x.m.Can(p) != want {
				x.Fatalf("Can(%v) = %v", p, !want)
			}
		}
		if x.w.can(api.Pick{Thread: thread, Kind: step}) {
			able = append(able, thread)
		}
		over = over && !x.w.there(thread)
		x.compareThread(thread)
	}
	wantAll(x.T, x.m, over, able...)
	wantCells(x.T, x.c, x.w.steps, x.w.cells...)
	for i, is := range x.w.permits {
		if x.p.Has(i) != is {
			x.Fatalf("Has(%d) = %v", i, !is)
		}
	}
}

func (x *match) compareThread(thread int) {
	x.Helper()
	if want := !x.w.there(thread); x.m.Done(thread) != want {
		x.Fatalf("Done(%d) = %v", thread, !want)
	}
	if want := x.w.parked(thread); x.m.Parked(thread) != want {
		x.Fatalf("Parked(%d) = %v", thread, !want)
	}
	if thread < 0 || thread >= len(x.w.actors) {
		return
	}
	a := x.w.actors[thread]
	if got := x.m.Values(thread); a.clear() && !slices.Equal(got, a.values) {
		x.Fatalf("Values(%d) = %v, want %v", thread, got, a.values)
	}
	a.asked.want(x.T, a.wantAsked()...)
}

// play makes picks, and gives permits and adds threads in between.
func (x *match) play(next chance, n int) {
	x.Helper()
	for range n {
		x.compare()
		switch next.upTo(12) {
		case 0:
			x.add(next)
		case 1, 2, 3:
			i := next.upTo(permitsThere)
			x.p.Give(i)
			x.w.permits[i] = true
		case 4:
			x.run(next)
		default:
			p := next.pick(len(x.w.actors))
			if want := x.w.pick(p); x.m.Pick(p) != want {
				x.Fatalf("Pick(%v) = %v", p, !want)
			}
		}
	}
	x.compare()
}

// run makes several picks at once.
func (x *match) run(next chance) {
	x.Helper()
	var l []api.Pick
	want := 0
	for range next.upTo(8) {
		p := next.pick(len(x.w.actors))
		l = append(l, p)
		if x.w.pick(p) {
			want++
		}
	}
	if got := x.m.Run(l); got != want {
		x.Fatalf("Run(%v) = %d, want %d", l, got, want)
	}
}

// P8.1 to P8.4: whatever the tasks are, and whatever the picks are.
func TestMachinesAreAsTheModel(t *testing.T) {
	threads, done := 0, 0
	for seed := range 3000 {
		next, x := mixer(uint64(seed)), newMatch(t)
		for range next.upTo(4) {
			x.add(next)
		}
		x.play(next, 80)
		for _, a := range x.w.actors {
			threads++
			if a.done() {
				done++
			}
		}
	}
	if done < threads/4 || done > threads*9/10 {
		t.Errorf("%d of %d threads came to their end", done, threads)
	}
}

// P8.4: the same picks of the same tasks do the same, whether they are made by one Run, by several, or one by one.
func TestTheSamePicksDoTheSame(t *testing.T) {
	for seed := range 1000 {
		next := mixer(^uint64(seed))
		var l []api.Pick
		for range 60 {
			l = append(l, next.pick(4))
		}
		cut := next.upTo(len(l))
		one, several, single := newFour(t, seed), newFour(t, seed), newFour(t, seed)
		n := one.m.Run(l)
		if got := several.m.Run(l[:cut]) + several.m.Run(l[cut:]); got != n {
			t.Fatalf("%d steps, and %d by two runs", n, got)
		}
		if got := single.pickEach(l); got != n {
			t.Fatalf("%d steps, and %d pick by pick", n, got)
		}
		one.wantSame(several)
		one.wantSame(single)
	}
}

// newFour has four threads, the same ones for the same seed.
func newFour(t *testing.T, seed int) *match {
	x, next := newMatch(t), mixer(uint64(seed))
	for range 4 {
		x.add(next)
	}
	for i := range permitsThere {
		x.p.Give(i)
	}
	return x
}

func (x *match) pickEach(l []api.Pick) int {
	n := 0
	for _, p := range l {
		if x.m.Pick(p) {
			n++
		}
	}
	return n
}

// wantSame tests that both machines are in the same state.
func (x *match) wantSame(y *match) {
	x.Helper()
	for thread := range x.m.Threads() {
		wantState(x.T, y.m, thread, x.m.Done(thread), x.m.Parked(thread), x.m.Values(thread)...)
		y.w.actors[thread].asked.want(x.T, *x.w.actors[thread].asked...)
	}
	wantAll(x.T, y.m, x.m.Over(), x.m.Able()...)
	wantCells(x.T, y.c, x.c.Steps(), x.c.All()...)
	for i := range permitsThere {
		if x.p.Has(i) != y.p.Has(i) {
			x.Fatalf("Has(%d) = %v", i, y.p.Has(i))
		}
	}
}
