package ground

import (
	"slices"
	"sync"

	"doorkeeper/api"
)

// journal is a log, which any number of goroutines may use at the same time.
type journal struct {
	mutex  sync.Mutex
	events []api.Event
}

// Call logs that the thread begins its call i.
func (g *Ground) Call(t, i int, c api.Call) {
	g.note(api.Event{Kind: api.EvCall, Thread: t, Index: i, Act: c.Op, Obj: c.Obj, Other: c.Arg})
}

// Act logs an act of the thread.
func (g *Ground) Act(t, act, obj, other int) {
	g.note(api.Event{Kind: api.EvAct, Thread: t, Act: act, Obj: obj, Other: other})
}

// Return logs what the thread's call i returns.
func (g *Ground) Return(t, i int, r api.Result) {
	g.note(api.Event{Kind: api.EvReturn, Thread: t, Index: i, Res: r})
}

// Events returns the log, in order.
func (g *Ground) Events() []api.Event {
	if g == nil {
		return nil
	}
	return g.log.all()
}

// note appends the event to the log; a nil ground has none.
func (g *Ground) note(e api.Event) {
	if g != nil {
		g.log.add(e)
	}
}

func (j *journal) add(e api.Event) {
	j.mutex.Lock()
	defer j.mutex.Unlock()
	j.events = append(j.events, e)
}

// all returns a copy, as the log may grow while the caller reads it.
func (j *journal) all() []api.Event {
	j.mutex.Lock()
	defer j.mutex.Unlock()
	return slices.Clone(j.events)
}
