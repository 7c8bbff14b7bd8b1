package ground_test

import (
	"math"
	"slices"
	"testing"

	"doorkeeper/api"
	"doorkeeper/ground"
)

// mixer makes numbers with mixed bits, the same ones in each run.
func mixer(state uint64) func(n int) int {
	return func(n int) int {
		state += 0x9e3779b97f4a7c15
		z := (state ^ state>>30) * 0xbf58476d1ce4e5b9
		z = (z ^ z>>27) * 0x94d049bb133111eb
		return int((z ^ z>>31) % uint64(n))
	}
}

// put makes w the word of the object.
func put(g *ground.Ground, o int, w uint64) {
	g.Cells.Store(g.Map.Word(o), w)
}

// wait lets the states of these threads say that they wait at the monitor n.
func wait(g *ground.Ground, n int, threads ...int) {
	for _, u := range threads {
		g.Cells.Store(g.State(u), api.StateOf(api.StateWaiting, n))
	}
}

// P13.3: Word

func TestWords(t *testing.T) {
	headers := []api.Header{
		{}, {Tag: api.TagFresh, Hash: api.MaxHash}, {Tag: api.TagFree}, {Tag: api.TagFree, Hash: 9},
		{Tag: api.TagBiased}, {Tag: api.TagBiased, Owner: 2, Count: 1, Hash: 9}, {Tag: api.TagBiased, Owner: api.MaxThreads - 1, Count: api.MaxThin, Hash: api.MaxHash},
		{Tag: api.TagThin, Count: 1}, {Tag: api.TagThin, Owner: 1, Count: 3, Hash: 9}, {Tag: api.TagThin, Owner: api.MaxThreads - 1, Count: api.MaxThin, Hash: api.MaxHash},
		{Tag: api.TagFat}, {Tag: api.TagFat, Mon: 1, Gen: 3, Hash: 9}, {Tag: api.TagFat, Mon: api.MaxMonitors - 1, Gen: api.MaxGen, Hash: api.MaxHash},
	}
	twice(t, few, []int{1, 2, 3, 4}, nil, func(t *testing.T, g *ground.Ground) {
		for _, h := range headers {
			for o := range few.Objects {
				before, _ := g.Word(o)
				put(g, o, packed(t, h))
				wantWord(t, g, o, h)
				for other := range few.Objects {
					if other != o {
						wantWord(t, g, other, api.Header{Tag: api.TagFree, Hash: other + 1})
					}
				}
				put(g, o, packed(t, before))
			}
		}
	})
}

// noWords are numbers that are no header's word.
var noWords = []uint64{
	5, 6, 7, 5 + 9<<3, // no tag
	3, 3 + 2<<27, // thin, with the count 0
	1<<27 | 0, 1<<27 | 1, 1 << 63, 1<<63 | 1, // bits that the tag does not use
	2 + 1<<50, 3 + 1<<42 + 1<<50, 4 + 1<<51, 4 + 1<<63,
	2 + 32766<<27, 2 + 32767<<27 + 1<<42, 3 + 32766<<27 + 1<<42, // no thread
	math.MaxUint64, math.MaxUint64 - 1,
}

// For what is no header's word, nothing else matters.
func TestWordsOfNoHeader(t *testing.T) {
	twice(t, few, nil, nil, func(t *testing.T, g *ground.Ground) {
		g.Cells.Store(g.Hold(0), api.HoldOf(1, 2))
		wait(g, 0, 0, 2)
		for _, w := range noWords {
			for o := range few.Objects {
				put(g, o, w)
				steps := g.Cells.Steps()
				wantNoWord(t, g, o)
				if g.Cells.Steps() != steps {
					t.Fatal("an operation")
				}
			}
		}
	})
}

// What lies ahead of the words, and behind them, is no object's, whatever the cells contain.
func TestObjectsThatDoNotExist(t *testing.T) {
	objects := []int{-1, -2, -3, few.Objects, few.Objects + 1, few.Size() - 2, few.Size(), api.MaxObjects, 1 << 32, -1 << 32, 1 << 61, math.MinInt, math.MaxInt}
	twice(t, few, nil, nil, func(t *testing.T, g *ground.Ground) {
		for _, v := range []uint64{0, 1, 3 + 1<<27 + 1<<42, 4} {
			for i := range few.Size() {
				g.Cells.Store(i, v)
			}
			steps := g.Cells.Steps()
			for _, o := range objects {
				wantNoWord(t, g, o)
			}
			if g.Cells.Steps() != steps {
				t.Fatal("an operation")
			}
		}
	})
}

// P13.3: View, by tags

// A word that counts tells the owner, also one that is no thread of the map; nobody waits, whatever monitors and states say.
func TestViewsOfWordsThatCount(t *testing.T) {
	twice(t, few, nil, nil, func(t *testing.T, g *ground.Ground) {
		g.Cells.Store(g.Hold(0), api.HoldOf(2, 9))
		wait(g, 0, 0, 1, 2)
		for o := range few.Objects {
			for _, tag := range []int{api.TagBiased, api.TagThin} {
				for _, owner := range []int{0, 1, 2, 3, api.MaxThreads - 1} {
					for _, count := range []int{1, 2, 254, api.MaxThin} {
						put(g, o, packed(t, api.Header{Tag: tag, Owner: owner, Count: count, Hash: 7}))
						wantView(t, g, o, owner, count)
					}
				}
			}
		}
	})
}

func TestViewsWithoutOwner(t *testing.T) {
	headers := []api.Header{
		{Tag: api.TagFresh}, {Tag: api.TagFresh, Hash: api.MaxHash}, {Tag: api.TagFree}, {Tag: api.TagFree, Hash: 8},
		{Tag: api.TagBiased}, {Tag: api.TagBiased, Owner: 2, Hash: 1}, {Tag: api.TagBiased, Owner: api.MaxThreads - 1},
		{Tag: api.TagFat, Mon: 2}, {Tag: api.TagFat, Mon: 3, Gen: 1}, {Tag: api.TagFat, Mon: api.MaxMonitors - 1},
	}
	twice(t, few, nil, nil, func(t *testing.T, g *ground.Ground) {
		for n := range few.Monitors {
			g.Cells.Store(g.Hold(n), api.HoldOf(2, 9))
		}
		for i, h := range headers {
			// Their states name the monitor, though it may not be one of the map.
			wait(g, h.Mon, 0, 1, 2)
			o := i % few.Objects
			put(g, o, packed(t, h))
			wantView(t, g, o, -1, 0)
		}
	})
}

// A map without monitors has no fat words that mean something.
func TestViewsWithoutMonitors(t *testing.T) {
	twice(t, mapOf(2, 1, 0), nil, nil, func(t *testing.T, g *ground.Ground) {
		wait(g, 0, 0, 1)
		put(g, 0, packed(t, api.Header{Tag: api.TagFat}))
		wantView(t, g, 0, -1, 0)
		put(g, 0, packed(t, api.Header{Tag: api.TagThin, Owner: 1, Count: 4}))
		wantView(t, g, 0, 1, 4)
	})
}

// Of a fat word, the hold cell of its monitor tells the owner and the depth, whatever generations say.
func TestViewsOfHolds(t *testing.T) {
	holds := []struct {
		hold         uint64
		owner, depth int
	}{
		{0, -1, 0}, {api.HoldOf(0, 1), 0, 1}, {api.HoldOf(1, 3), 1, 3}, {api.HoldOf(2, 256), 2, 256}, {api.HoldOf(2, api.MaxDepth), 2, api.MaxDepth},
		{1, -1, 1}, {5, -1, 5}, {1<<32 - 1, -1, 1<<32 - 1}, // a depth, and no owner
		{1 << 32, 0, 0}, {2 << 32, 1, 0}, // an owner, and no depth
		{api.HoldOf(3, 2), 3, 2}, {api.HoldOf(api.MaxThreads, 1), api.MaxThreads, 1}, {math.MaxUint64, 1<<32 - 2, 1<<32 - 1},
	}
	twice(t, few, nil, nil, func(t *testing.T, g *ground.Ground) {
		for _, h := range holds {
			for n := range few.Monitors {
				for _, gen := range []int{0, 1, api.MaxGen} {
					o := (n + gen) % few.Objects
					put(g, o, packed(t, api.Header{Tag: api.TagFat, Mon: n, Gen: gen, Hash: 3}))
					g.Cells.Store(g.Hold(n), h.hold)
					g.Cells.Store(g.Hold(1-n), api.HoldOf(1-n, 77))
					g.Cells.Store(g.Gen(n), 2)
					wantView(t, g, o, h.owner, h.depth)
				}
			}
		}
	})
}

// P13.3: who waits

// What each state cell says counts alone: whether it is waiting, and at this monitor.
func TestViewsOfStates(t *testing.T) {
	twice(t, mapOf(3, 1, 3), nil, nil, func(t *testing.T, g *ground.Ground) {
		put(g, 0, packed(t, api.Header{Tag: api.TagFat, Mon: 1}))
		g.Cells.Store(g.Hold(1), api.HoldOf(2, 1))
		for _, state := range []uint64{
			api.StateOf(api.StateIdle, 1), api.StateOf(api.StateEntering, 1), api.StateOf(api.StateNotified, 1),
			api.StateOf(api.StateWaiting, 0), api.StateOf(api.StateWaiting, 2), api.StateOf(api.StateWaiting, 9), api.StateOf(api.StateWaiting, api.MaxMonitors+1),
			0, 1, 2, 8 + 4, 8 + 5, 8 + 6, 8 + 7, 10 + 1<<15, 10 + 1<<32, 10 + 1<<61, 10 + 1<<63, math.MaxUint64, math.MaxUint64 - 5,
		} {
			g.Cells.Store(g.State(0), state)
			g.Cells.Store(g.State(1), state)
			wantView(t, g, 0, 2, 1)
			wait(g, 1, 1)
			wantView(t, g, 0, 2, 1, 1)
			wait(g, 1, 0)
			wantView(t, g, 0, 2, 1, 0, 1)
		}
	})
}

// All sets of threads wait, in increasing order, except for the owner, whoever that is.
func TestViewsOfThreadsThatWait(t *testing.T) {
	const threads = 5
	twice(t, mapOf(threads, 2, 2), nil, nil, func(t *testing.T, g *ground.Ground) {
		put(g, 1, packed(t, api.Header{Tag: api.TagFat, Mon: 1}))
		for set := range 1 << threads {
			for owner := -1; owner <= threads; owner++ {
				g.Cells.Store(g.Hold(1), api.HoldOf(owner, owner+1))
				var want []int
				for u := range threads {
					in := set >> u & 1
					wait(g, in, u)
					if in == 1 && u != owner {
						want = append(want, u)
					}
				}
				wantView(t, g, 1, owner, owner+1, want...)
			}
		}
	})
}

// Queues, flags, saved depths, and what else there is in cells, do not matter.
func TestViewsOfOtherCells(t *testing.T) {
	twice(t, few, nil, nil, func(t *testing.T, g *ground.Ground) {
		put(g, 2, packed(t, api.Header{Tag: api.TagFat, Mon: 1, Gen: 4}))
		g.Cells.Store(g.Hold(1), api.HoldOf(0, 2))
		wait(g, 1, 0, 2)
		own := []int{g.Map.Word(2), g.Hold(1), g.State(0), g.State(1), g.State(2)}
		for i := range few.Size() {
			for _, v := range []uint64{0, 1, 2, api.StateOf(api.StateWaiting, 1), api.HoldOf(1, 1), math.MaxUint64} {
				if !slices.Contains(own, i) {
					g.Cells.Store(i, v)
				}
				wantView(t, g, 2, 0, 2, 2)
			}
		}
	})
}

// What View returns belongs to the caller.
func TestViewsAreTheCallers(t *testing.T) {
	twice(t, few, nil, nil, func(t *testing.T, g *ground.Ground) {
		put(g, 0, packed(t, api.Header{Tag: api.TagFat}))
		wait(g, 0, 1, 2)
		v := g.View(0)
		v.Waiting[0], v.Waiting[1] = 7, 8
		v.Waiting = append(v.Waiting[:1], 9)
		wantView(t, g, 0, -1, 0, 1, 2)
	})
}

// model is what is observed of an object, by the chapter's words and by divisions, from the values of all cells.
func model(m api.Map, all []uint64, o int) api.View {
	none := api.View{Owner: -1}
	w := all[m.Word(o)]
	tag, rest := w%8, w/8/(1<<24)
	switch tag {
	case api.TagBiased, api.TagThin:
		owner, count := rest%(1<<15), rest/(1<<15)
		if count == 0 || count > 255 || owner >= api.MaxThreads {
			return none
		}
		return api.View{Owner: int(owner), Depth: int(count)}
	case api.TagFat:
		mon := rest % (1 << 12)
		if rest >= 1<<24 || mon >= uint64(m.Monitors) {
			return none
		}
		hold := all[m.Hold(int(mon))]
		v := api.View{Owner: int(hold/(1<<32)) - 1, Depth: int(hold % (1 << 32))}
		for u := range m.Threads {
			if s := all[m.State(u)]; s%8 == 2 && s/8 == mon && u != v.Owner {
				v.Waiting = append(v.Waiting, u)
			}
		}
		return v
	}
	return none
}

// Grounds whose cells contain anything are observed as the model observes them.
func TestViewsOfAnyCells(t *testing.T) {
	next := mixer(13)
	for _, m := range []api.Map{few, mapOf(1, 1, 1), mapOf(6, 2, 3), mapOf(4, 5, 1), mapOf(2, 3, 0)} {
		twice(t, m, nil, nil, func(t *testing.T, g *ground.Ground) {
			waits := 0
			for range 3000 {
				shake(t, g, next)
				all := g.Cells.All()
				for o := range m.Objects {
					want := model(m, all, o)
					wantView(t, g, o, want.Owner, want.Depth, want.Waiting...)
					waits += len(want.Waiting)
				}
			}
			if m.Threads > 1 && m.Monitors > 0 && waits < 500 {
				t.Errorf("only %d threads waited", waits)
			}
		})
	}
}

// shake changes some word, state or hold cell.
func shake(t *testing.T, g *ground.Ground, next func(n int) int) {
	t.Helper()
	mon := next(g.Monitors + 1)
	switch next(7) {
	case 0, 1:
		g.Cells.Store(g.State(next(g.Threads)), api.StateOf([]int{0, 1, 2, 2, 2, 3, 6}[next(7)], mon))
	case 2:
		if mon < g.Monitors {
			g.Cells.Store(g.Hold(mon), uint64(next(g.Threads+2))<<32|uint64(next(3)))
		}
	case 3:
		put(g, next(g.Objects), uint64(next(1<<53))>>next(53))
	default:
		h := []api.Header{
			{Tag: api.TagFresh}, {Tag: api.TagFree}, {Tag: api.TagBiased, Owner: next(g.Threads), Count: next(3)}, {Tag: api.TagThin, Owner: next(g.Threads), Count: 1 + next(3)},
			{Tag: api.TagFat, Mon: mon}, {Tag: api.TagFat, Mon: mon, Gen: next(3)}, {Tag: api.TagFat, Mon: mon},
		}[next(7)]
		h.Hash = next(api.MaxHash + 1)
		put(g, next(g.Objects), packed(t, h))
	}
}
