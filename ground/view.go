package ground

import (
	"iter"

	"doorkeeper/api"
	"doorkeeper/word"
)

// nobody is no thread: the owner of an object that has none.
const nobody = -1

// Word returns the object's header, and whether there is one.
func (g *Ground) Word(o int) (api.Header, bool) {
	h, _, is := g.look(o)
	return h, is
}

// View returns what is observed of the object.
func (g *Ground) View(o int) api.View {
	if h, all, is := g.look(o); is {
		if meaning := g.meanings(all)[h.Tag]; meaning != nil {
			return meaning(h)
		}
	}
	return api.View{Owner: nobody}
}

// look returns the object's header, and the values of all cells at that time: to read them all at once is no operation.
func (g *Ground) look(o int) (h api.Header, all []uint64, is bool) {
	if g == nil || !g.Right() || o < 0 || o >= g.Objects {
		return h, nil, false
	}
	all = g.Cells.All()
	if len(all) < g.Size() {
		return h, nil, false
	}
	h, is = word.Open(all[g.Map.Word(o)])
	return h, all, is
}

// meanings are what is observed of an object by its header, where these are the values of all cells; a tag that is not here means that there is nothing.
func (g *Ground) meanings(all []uint64) map[int]func(h api.Header) api.View {
	counted := func(h api.Header) api.View {
		if h.Count == 0 {
			return api.View{Owner: nobody}
		}
		return api.View{Owner: h.Owner, Depth: h.Count}
	}
	return map[int]func(h api.Header) api.View{
		api.TagBiased: counted,
		api.TagThin:   counted,
		api.TagFat: func(h api.Header) api.View {
			if h.Mon >= g.Monitors {
				return api.View{Owner: nobody}
			}
			return g.monitor(all, h.Mon)
		},
	}
}

// monitor returns what is observed of the object of the monitor n, where these are the values of all cells.
func (g *Ground) monitor(all []uint64, n int) api.View {
	var v api.View
	v.Owner, v.Depth = api.HeldBy(all[g.Hold(n)])
	for t := range g.waiting(all, n) {
		// An owner that is about to wait says so ahead of the step by which it releases the object.
		if t != v.Owner {
			v.Waiting = append(v.Waiting, t)
		}
	}
	return v
}

// waiting yields the threads whose states say that they wait at the monitor n, in increasing order, where these are the values of all cells.
func (g *Ground) waiting(all []uint64, n int) iter.Seq[int] {
	return func(yield func(t int) bool) {
		for t := range g.Threads {
			if all[g.State(t)] == api.StateOf(api.StateWaiting, n) && !yield(t) {
				return
			}
		}
	}
}
