package task_test

import (
	"iter"
	"slices"
	"testing"

	"doorkeeper/api"
	"doorkeeper/cells"
	"doorkeeper/permit"
	"doorkeeper/task"
)

// Forms of plans.
const (
	planReady = iota
	planNone
	planOne
	planLoad
	planStore
	planSwap
	planAdd
	planSpin
	planPark
	planSeq
	planThen
	planLoop
	plans
)

// A plan says what a task is to do; a task is made of it, and a player does it, without tasks.
type plan struct {
	form  int
	i     int
	v, w  uint64
	timed bool
	// The parts of a Seq; of a Then, the first task, and those of which the value chooses the next one; of a Loop, what its body is, one after the other, the last one again and again.
	parts []*plan
}

// chosen is the part of a Then that follows a value.
func (x *plan) chosen(v int) *plan {
	return x.parts[1+int(uint(v)%uint(len(x.parts)-1))]
}

// body is the part of a Loop for a round.
func (x *plan) body(round int) *plan {
	return x.parts[min(round, len(x.parts)-1)]
}

// shared is what plans work on: both a task's and a player's, each with its own.
type shared struct {
	c *cells.Cells
	p *permit.Permits
	// What functions of One were called with.
	calls tape
}

// task makes the task of a plan.
func (s *shared) task(x *plan) *task.Task {
	switch x.form {
	case planReady:
		return task.Ready(int(x.v))
	case planOne:
		return task.One(func() int { s.calls.note(x.i); return int(x.v) })
	case planLoad:
		return task.Load(s.c, x.i)
	case planStore:
		return task.Store(s.c, x.i, x.v)
	case planSwap:
		return task.Swap(s.c, x.i, x.v, x.w)
	case planAdd:
		return task.Add(s.c, x.i, x.v)
	case planSpin:
		return task.Spin(s.c, x.i, x.v, x.w)
	case planPark:
		return task.Park(s.p, x.i, x.timed)
	case planSeq:
		var l []*task.Task
		for _, part := range x.parts {
			l = append(l, s.task(part))
		}
		return task.Seq(l...)
	case planThen:
		return task.Then(s.task(x.parts[0]), func(v int) *task.Task { return s.task(x.chosen(v)) })
	case planLoop:
		round := -1
		return task.Loop(func() *task.Task { round++; return s.task(x.body(round)) })
	}
	return nil
}

// player does a plan as if it were an ordinary program, which stops ahead of each step.
type player struct {
	cells   []uint64
	permits []bool
	calls   tape
	// Where it stops: parked, or ahead of an operation.
	stop   func(parked *plan) bool
	kind   int
	stops  int
	result int
}

// left is how a player's program ends that is not carried on.
type left struct{}

// wait stops until a step is taken.
func (y *player) wait(parked *plan) {
	y.stops++
	if !y.stop(parked) {
		panic(left{})
	}
}

// stopsOf are the stops of a player that does a plan.
func (y *player) stopsOf(x *plan) iter.Seq[*plan] {
	return func(yield func(*plan) bool) {
		defer func() {
			if r := recover(); r != nil && r != (left{}) {
				panic(r)
			}
		}()
		y.stop = yield
		y.result = y.do(x)
	}
}

func (y *player) there(i int) bool { return i >= 0 && i < len(y.cells) }

// swap, and whether it did.
func (y *player) swap(x *plan) int {
	if !y.there(x.i) || y.cells[x.i] != x.v {
		return 0
	}
	y.cells[x.i] = x.w
	return 1
}

// has reports whether the thread of a Park has a permit.
func (y *player) has(x *plan) bool {
	return x.i >= 0 && x.i < len(y.permits) && y.permits[x.i]
}

// can reports whether a step of this kind can be taken where the player stops.
func (y *player) can(parked *plan, kind int) bool {
	switch {
	case parked == nil:
		return kind == 0
	case kind == 0:
		return y.has(parked)
	case kind == 1:
		return parked.timed
	}
	return kind == 2
}

func (y *player) do(x *plan) int {
	switch x.form {
	case planReady:
		return int(x.v)
	case planPark:
		y.wait(x)
		if y.kind == 0 {
			y.permits[x.i] = false
		}
		return y.kind
	case planSeq:
		v := 0
		for _, part := range x.parts {
			v = y.do(part)
		}
		return v
	case planThen:
		return y.do(x.chosen(y.do(x.parts[0])))
	case planLoop:
		for round := 0; ; round++ {
			before := y.stops
			if v := y.do(x.body(round)); v != task.Again || y.stops == before {
				return v
			}
		}
	case planNone:
		return 0
	}
	y.wait(nil)
	return y.operate(x)
}

// operate does what a plan of one operation says.
func (y *player) operate(x *plan) int {
	switch x.form {
	case planOne:
		y.calls.note(x.i)
		return int(x.v)
	case planSwap:
		return y.swap(x)
	case planSpin:
		for y.swap(x) == 0 {
			y.wait(nil)
		}
		return 1
	}
	if !y.there(x.i) {
		return 0
	}
	switch x.form {
	case planStore:
		y.cells[x.i] = x.v
		return 1
	case planAdd:
		y.cells[x.i] += x.v
	}
	return int(y.cells[x.i])
}

// maker makes plans, the same ones in each run.
type maker func() uint64

func (next maker) upTo(n int) int { return int(next() % uint64(n)) }

// number is a value that cells often have, and now and then the one by which loops go on.
func (next maker) number() uint64 {
	if next.upTo(4) == 0 {
		return 1<<64 - 1<<31
	}
	return uint64(next.upTo(3))
}

func (next maker) plan(depth int) *plan {
	x := &plan{form: next.upTo(plans), i: next.upTo(5) - 1, v: next.number(), w: next.number(), timed: next.upTo(2) == 0}
	if depth == 0 && x.form >= planSeq {
		x.form = planAdd
	}
	if x.form == planThen || x.form == planLoop {
		x.parts = append(x.parts, next.plan(depth-1), next.plan(depth-1))
	}
	if x.form >= planSeq {
		for range next.upTo(4) {
			x.parts = append(x.parts, next.plan(depth-1))
		}
	}
	return x
}

// match compares a task with a player, pick by pick.
type match struct {
	*testing.T
	shared
	*player
	x *task.Task
}

// compare tests that the task is where the player is.
func (m *match) compare(parked *plan, over bool) {
	m.Helper()
	value := 0
	if over {
		value = m.result
	}
	if m.x.Done() != over || m.x.Parked() != (parked != nil) || m.x.Value() != value {
		m.Fatalf("Done = %v, Parked = %v, Value = %d; want %v, %v, %d", m.x.Done(), m.x.Parked(), m.x.Value(), over, parked != nil, value)
	}
	for kind := -1; kind < 5; kind++ {
		if want := !over && m.can(parked, kind); m.x.Can(kind) != want {
			m.Fatalf("Can(%d) = %v", kind, !want)
		}
	}
	if got := m.c.All(); !slices.Equal(got, m.player.cells) {
		m.Fatalf("cells %v, want %v", got, m.player.cells)
	}
	for i, is := range m.permits {
		if m.p.Has(i) != is {
			m.Fatalf("Has(%d) = %v", i, !is)
		}
	}
	m.shared.calls.want(m.T, m.player.calls...)
}

// play makes picks of all kinds, and gives permits in between.
func (m *match) play(x *plan, next maker) {
	m.Helper()
	walk, end := iter.Pull(m.stopsOf(x))
	defer end()
	m.x = m.task(x)
	parked, more := walk()
	for range 60 {
		m.compare(parked, !more)
		if next.upTo(3) == 0 {
			i := next.upTo(len(m.permits))
			m.p.Give(i)
			m.permits[i] = true
		}
		kind, before := [...]int{0, 0, 0, 0, 0, 1, 2, -1, 3}[next.upTo(9)], m.c.Steps()
		is := more && m.can(parked, kind)
		if m.x.Step(kind) != is {
			m.Fatalf("Step(%d) = %v", kind, !is)
		}
		if did := m.c.Steps() - before; did > 1 || did > 0 && (!is || parked != nil) {
			m.Fatalf("Step(%d) = %v does %d operations", kind, is, did)
		}
		if is {
			m.kind = kind
			parked, more = walk()
		}
	}
	m.compare(parked, !more)
	m.finish(parked, more, walk)
}

// finish lets Run do what is left, where nothing is waited for that does not come.
func (m *match) finish(parked *plan, more bool, walk func() (*plan, bool)) {
	m.Helper()
	for steps := 0; more; steps++ {
		if steps == 200 {
			return
		}
		switch m.kind = api.PickStep; {
		case m.can(parked, api.PickStep):
		case m.can(parked, api.PickTime):
			m.kind = api.PickTime
		default:
			return
		}
		parked, more = walk()
	}
	if got := task.Run(m.x); got != m.result {
		m.Fatalf("Run = %d, want %d", got, m.result)
	}
	m.compare(nil, true)
}

// P6.1 to P6.6: whatever a task consists of, and whatever the picks are.
func TestTasksAreAsTheModel(t *testing.T) {
	const cellsOfEach, threads = 3, 3
	var done [plans]int
	for seed := range 20000 {
		next := maker(mixer(uint64(seed)))
		x := next.plan(seed % 5)
		m := &match{
			T:      t,
			shared: shared{c: cells.New(cellsOfEach), p: permit.New(threads)},
			player: &player{cells: make([]uint64, cellsOfEach), permits: make([]bool, threads)},
		}
		m.play(x, next)
		if m.x.Done() {
			done[x.form]++
		}
	}
	for form, n := range done {
		if n < 100 {
			t.Errorf("only %d tasks of the form %d came to their end", n, form)
		}
	}
}

// mixer yields the same numbers in each run, with mixed bits.
func mixer(state uint64) func() uint64 {
	return func() uint64 {
		state += 0x9e3779b97f4a7c15
		z := (state ^ state>>30) * 0xbf58476d1ce4e5b9
		z = (z ^ z>>27) * 0x94d049bb133111eb
		return z ^ z>>31
	}
}
