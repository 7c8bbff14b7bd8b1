package fat

import (
	"slices"

	"doorkeeper/api"
	"doorkeeper/ground"
	"doorkeeper/machine"
	"doorkeeper/task"
)

// player is a thread with calls, each of which is what do returns.
type player struct {
	*ground.Ground
	t     int
	calls []api.Call
	do    func(t int, c api.Call) *task.Task
}

// Noted returns a machine with a thread for each list of calls, whose calls and returns are logged, and are what do returns.
func Noted(g *ground.Ground, lists [][]api.Call, do func(t int, c api.Call) *task.Task) *machine.Machine {
	if g == nil {
		return nil
	}
	m := machine.New()
	for t, l := range lists {
		// The lists are the caller's, and are read when the machine goes on.
		m.Make(player{g, t, slices.Clone(l), do}.next)
	}
	return m
}

// Play returns a machine whose threads enter, leave and look at the monitor n of the object o.
func Play(g *ground.Ground, o, n, gen int, lists [][]api.Call) *machine.Machine {
	operations := map[int]func(g *ground.Ground, t, o, n, gen int) *task.Task{
		api.OpEnter: Enter,
		api.OpExit:  Exit,
		api.OpHolds: Holds,
	}
	return Noted(g, lists, func(t int, c api.Call) *task.Task {
		if do := operations[c.Op]; do != nil {
			return do(g, t, o, n, gen)
		}
		return result(api.ErrArg)
	})
}

// next logs the call i, and returns its task, or nil if there is no such call.
func (p player) next(i int) *task.Task {
	if i >= len(p.calls) {
		return nil
	}
	c := p.calls[i]
	p.Call(p.t, i, c)
	called := task.Then(p.Begin(p.t), func(int) *task.Task { return p.do(p.t, c) })
	return task.Then(called, func(r int) *task.Task {
		return task.Then(p.End(p.t), func(int) *task.Task {
			p.Return(p.t, i, api.Unpacked(r))
			return task.Ready(r)
		})
	})
}
