package spec

import (
	"slices"

	"doorkeeper/api"
)

// handlers are what does the acts of a valid call of each operation. Each reports whether the act is possible; it is one of a call that has not ended, on the call's object.
func (s *Spec) handlers() map[int]func(e api.Event) bool {
	return map[int]func(e api.Event) bool{
		api.OpEnter:     s.enter,
		api.OpExit:      s.exit,
		api.OpWait:      s.wait,
		api.OpTimed:     s.wait,
		api.OpNotify:    s.notify,
		api.OpAll:       s.notify,
		api.OpInterrupt: s.interrupt,
		api.OpHolds:     s.look,
		api.OpDeflate:   s.deflate,
	}
}

func (s *Spec) enter(e api.Event) bool {
	x, o := &s.threads[e.Thread], &s.objects[e.Obj]
	switch owns := o.owner == e.Thread; {
	case is(e, api.ActEnter, 0) && (owns || o.owner == nobody):
		o.owner = e.Thread
		o.depth++
		x.end(api.Result{})
	case refuses(e, api.ErrDepth) && owns, refuses(e, api.ErrFull):
		x.refuse(e)
	default:
		return false
	}
	return true
}

func (s *Spec) exit(e api.Event) bool {
	x, o := &s.threads[e.Thread], &s.objects[e.Obj]
	switch owns := o.owner == e.Thread; {
	case is(e, api.ActExit, 0) && owns:
		o.depth--
		if o.depth == 0 {
			o.owner = nobody
		}
		x.end(api.Result{})
	case refuses(e, api.ErrOwner) && !owns:
		x.refuse(e)
	default:
		return false
	}
	return true
}

// wait does the acts of OpWait and OpTimed.
func (s *Spec) wait(e api.Event) bool {
	switch s.threads[e.Thread].progress {
	case begun:
		return s.beginWait(e)
	case reentering:
		return s.grant(e)
	}
	return s.endWait(e)
}

func (s *Spec) beginWait(e api.Event) bool {
	x, o := &s.threads[e.Thread], &s.objects[e.Obj]
	switch owns := o.owner == e.Thread; {
	case refuses(e, api.ErrOwner) && !owns, refuses(e, api.ErrFull):
		x.refuse(e)
	case is(e, api.ActClear, 0) && owns && x.flag:
		x.flag = false
		x.end(api.Result{Value: api.HowInterrupted})
	case is(e, api.ActRelease, 0) && owns:
		x.depth, x.progress = o.depth, waiting
		o.owner, o.depth = nobody, 0
		o.line = append(o.line, e.Thread)
	default:
		return false
	}
	return true
}

// endWait does the acts of a thread that waits.
func (s *Spec) endWait(e api.Event) bool {
	x := &s.threads[e.Thread]
	switch {
	case is(e, api.ActClear, 0) && x.flag && x.progress == waiting:
		x.flag, x.progress = false, cleared
	case e.Act == api.ActLeave && x.leaves(e.Other):
		s.awake(e.Thread, e.Other)
	default:
		return false
	}
	return true
}

// leaves reports whether the thread, which waits, may leave in this way. Only a notification ends a wait with HowNotified, which is no leaving.
func (x *thread) leaves(how int) bool {
	switch how {
	case api.HowTimed:
		return x.progress == waiting && x.Op == api.OpTimed
	case api.HowInterrupted:
		return x.progress == cleared
	case api.HowSpurious:
		return x.progress == waiting
	}
	return false
}

// awake ends the waiting of a thread, and says how it ended.
func (s *Spec) awake(t, how int) {
	x := &s.threads[t]
	x.progress, x.result = reentering, api.Result{Value: how}
	o := &s.objects[x.Obj]
	o.line = slices.DeleteFunc(o.line, func(u int) bool { return u == t })
}

// grant gives the object back to a thread that does not wait any more.
func (s *Spec) grant(e api.Event) bool {
	x, o := &s.threads[e.Thread], &s.objects[e.Obj]
	if !is(e, api.ActGrant, 0) || o.owner != nobody {
		return false
	}
	o.owner, o.depth = e.Thread, x.depth
	x.end(x.result)
	return true
}

// notify does the acts of OpNotify and OpAll; those of OpAll end when there is nobody to be woken.
func (s *Spec) notify(e api.Event) bool {
	x := &s.threads[e.Thread]
	owns := s.objects[e.Obj].owner == e.Thread
	if refuses(e, api.ErrOwner) && !owns {
		x.refuse(e)
		return true
	}
	u := s.longest(e.Obj)
	if !owns || !is(e, api.ActNotify, u) {
		return false
	}
	if u != nobody {
		s.awake(u, api.HowNotified)
	}
	if u == nobody || x.Op == api.OpNotify {
		x.end(api.Result{})
	}
	return true
}

// longest returns the thread that a notification wakes, or nobody.
func (s *Spec) longest(o int) int {
	for t := range s.waiting(o) {
		if s.threads[t].progress == waiting {
			return t
		}
	}
	return nobody
}

func (s *Spec) interrupt(e api.Event) bool {
	x := &s.threads[e.Thread]
	if !is(e, api.ActInterrupt, x.Arg) {
		return false
	}
	s.threads[x.Arg].flag = true
	x.end(api.Result{})
	return true
}

// look does the act of OpHolds.
func (s *Spec) look(e api.Event) bool {
	owns := 0
	if s.objects[e.Obj].owner == e.Thread {
		owns = 1
	}
	if !is(e, api.ActLook, owns) {
		return false
	}
	s.threads[e.Thread].end(api.Result{Value: owns})
	return true
}

func (s *Spec) deflate(e api.Event) bool {
	if !is(e, api.ActNone, 0) {
		return false
	}
	s.threads[e.Thread].end(api.Result{})
	return true
}

// is reports whether the event is this act, with this Other.
func is(e api.Event, act, other int) bool {
	return e.Act == act && e.Other == other
}

// refuses reports whether the event is a refusal with this code.
func refuses(e api.Event, code api.Errno) bool {
	return is(e, api.ActRefuse, int(code))
}

// refuse ends the call with the code of a refusal.
func (x *thread) refuse(e api.Event) {
	x.end(api.Result{Code: api.Errno(e.Other)})
}
