package await

import (
	"doorkeeper/api"
	"doorkeeper/fat"
	"doorkeeper/ground"
	"doorkeeper/machine"
	"doorkeeper/task"
	"doorkeeper/wake"
)

// Play returns a machine whose threads do any calls at the monitor n of the object o, but for those that give it back.
func Play(g *ground.Ground, o, n, gen int, lists [][]api.Call) *machine.Machine {
	operations := operationsAt(g, o, n, gen)
	return fat.Noted(g, lists, func(t int, c api.Call) *task.Task {
		if do := operations[c.Op]; do != nil {
			return do(t, c)
		}
		return result(api.ErrArg)
	})
}

// operationsAt are what a thread does for its call, by the call's operation.
func operationsAt(g *ground.Ground, o, n, gen int) map[int]func(t int, c api.Call) *task.Task {
	return map[int]func(t int, c api.Call) *task.Task{
		api.OpEnter:     func(t int, _ api.Call) *task.Task { return fat.Enter(g, t, o, n, gen) },
		api.OpExit:      func(t int, _ api.Call) *task.Task { return fat.Exit(g, t, o, n, gen) },
		api.OpHolds:     func(t int, _ api.Call) *task.Task { return fat.Holds(g, t, o, n, gen) },
		api.OpWait:      func(t int, _ api.Call) *task.Task { return Wait(g, t, o, n, gen, false) },
		api.OpTimed:     func(t int, _ api.Call) *task.Task { return Wait(g, t, o, n, gen, true) },
		api.OpNotify:    func(t int, _ api.Call) *task.Task { return Notify(g, t, o, n, gen, false) },
		api.OpAll:       func(t int, _ api.Call) *task.Task { return Notify(g, t, o, n, gen, true) },
		api.OpInterrupt: func(t int, c api.Call) *task.Task { return wake.Interrupt(g, t, o, c.Arg) },
	}
}
