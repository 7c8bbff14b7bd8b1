package atom_test

import (
	"math"
	"runtime"
	"runtime/metrics"
	"slices"
	"sync"
	"testing"
	"time"

	"doorkeeper/atom"
	"doorkeeper/cells"
)

// The limits as the document has them.
const (
	mostCells      = 16777216
	mostGoroutines = 64
	mostTimes      = 10000
)

// top is the greatest value of a cell.
const top = math.MaxUint64

// sum is one of Count, Marks and Guarded.
type sum func(goroutines, times int) int

func sums() map[string]sum {
	return map[string]sum{
		"Count":   func(g, n int) int { return int(atom.Count(g, n)) },
		"Marks":   func(g, n int) int { return int(atom.Marks(g, n)) },
		"Guarded": atom.Guarded,
	}
}

// inGoroutines does work in so many goroutines, which start together, and waits for all.
func inGoroutines(goroutines int, work func(g int)) {
	start := make(chan struct{})
	var all sync.WaitGroup
	for g := range goroutines {
		all.Go(func() {
			<-start
			work(g)
		})
	}
	close(start)
	all.Wait()
}

// mixer yields the same numbers in each run, with mixed bits.
func mixer(state uint64) func() uint64 {
	return func() uint64 {
		state += 0x9e3779b97f4a7c15
		z := (state ^ state>>30) * 0xbf58476d1ce4e5b9
		z = (z ^ z>>27) * 0x94d049bb133111eb
		return z ^ z>>31
	}
}

func wantAll(t *testing.T, c *cells.Cells, want ...uint64) {
	t.Helper()
	if got := c.All(); !slices.Equal(got, want) {
		t.Errorf("All = %v, want %v", got, want)
	}
}

func wantSteps(t *testing.T, c *cells.Cells, want int) {
	t.Helper()
	if got := c.Steps(); got != want {
		t.Errorf("Steps = %d, want %d", got, want)
	}
}

// wantNothing tests that no operation does anything at cells that do not exist.
func wantNothing(t *testing.T, c *cells.Cells, numbers ...int) {
	t.Helper()
	before, steps := c.All(), c.Steps()
	for _, i := range numbers {
		v, stored, was, sum := c.Load(i), c.Store(i, 1), c.Swap(i, 0, 1), c.Add(i, 1)
		if v != 0 || stored || was || sum != 0 {
			t.Errorf("cell %d: %d, %v, %v, %d", i, v, stored, was, sum)
		}
	}
	wantSteps(t, c, steps)
	if !slices.Equal(c.All(), before) {
		t.Error("cells changed")
	}
}

// P4.1

func TestNew(t *testing.T) {
	for _, n := range []int{0, 1, 2, 3, 8, 1000, 1<<16 + 1} {
		c := atom.New(n)
		if c == nil {
			t.Fatalf("New(%d) is nil", n)
		}
		if c.Len() != n {
			t.Errorf("New(%d) has %d cells", n, c.Len())
		}
		wantAll(t, c, make([]uint64, n)...)
		wantSteps(t, c, 0)
		wantNothing(t, c, -1, n, n+1, math.MinInt, math.MaxInt, 1<<32)
	}
}

func TestNewOfTheMost(t *testing.T) {
	c := atom.New(mostCells)
	if c == nil {
		t.Fatal("nil")
	}
	if c.Len() != mostCells {
		t.Errorf("%d cells", c.Len())
	}
	if c.Load(mostCells-1) != 0 || c.Add(mostCells-1, 7) != 7 || c.Load(mostCells-1) != 7 || c.Load(0) != 0 {
		t.Error("the last cell is not as the others")
	}
	if c.Store(mostCells, 1) || c.Store(-1, 1) {
		t.Error("there are more cells")
	}
}

func TestNewOfWrongNumbers(t *testing.T) {
	for _, n := range []int{-1, -2, -mostCells, math.MinInt32, math.MinInt, mostCells + 1, mostCells + 2, 1 << 31, 1 << 32, 1<<32 + 1, 1 << 62, math.MaxInt} {
		if atom.New(n) != nil {
			t.Errorf("New(%d) is not nil", n)
		}
	}
}

func TestExampleOfNew(t *testing.T) {
	c := atom.New(2)
	stored, was, v := c.Store(0, 5), c.Swap(0, 5, 7), c.Load(0)
	if !stored || !was || v != 7 {
		t.Errorf("%v, %v, %d", stored, was, v)
	}
}

func TestNewCellsAreTheirOwn(t *testing.T) {
	a, b := atom.New(2), atom.New(2)
	a.Store(0, 5)
	wantAll(t, a, 5, 0)
	wantAll(t, b, 0, 0)
	wantSteps(t, a, 1)
	wantSteps(t, b, 0)
}

// Each Add makes a value that no other one makes, however many goroutines add.
func TestAddsHaveAnOrder(t *testing.T) {
	const goroutines, times = 8, 20000
	c := atom.New(3)
	var made [goroutines][]uint64
	inGoroutines(goroutines, func(g int) {
		for range times {
			made[g] = append(made[g], c.Add(1, 1))
		}
	})
	var all []uint64
	for _, values := range made {
		if !slices.IsSorted(values) {
			t.Error("a goroutine's own Adds are not in its order")
		}
		all = append(all, values...)
	}
	slices.Sort(all)
	for i, v := range all {
		if v != uint64(i+1) {
			t.Fatalf("the value number %d is %d", i+1, v)
		}
	}
	wantAll(t, c, 0, goroutines*times, 0)
	wantSteps(t, c, goroutines*times)
}

// Of several goroutines that exchange the same value, one does it.
func TestSwapsHaveAnOrder(t *testing.T) {
	const goroutines, times = 8, 20000
	c := atom.New(2)
	var won [goroutines]uint64
	inGoroutines(goroutines, func(g int) {
		for v := range uint64(times) {
			if c.Swap(0, v, v+1) {
				won[g]++
			}
			// A Swap that fails must not change anything: nobody else writes this cell.
			c.Swap(1, v+1, top)
		}
	})
	total := uint64(0)
	for _, n := range won {
		total += n
	}
	wantAll(t, c, total, 0)
	wantSteps(t, c, 2*goroutines*times)
}

// A Load has a value that was stored as a whole.
func TestStoredValuesAreWhole(t *testing.T) {
	const times = 20000
	c := atom.New(1)
	low, high := uint64(math.MaxUint32), uint64(math.MaxUint32)<<32
	var odd [4]int
	inGoroutines(4, func(g int) {
		for i := range times {
			switch {
			case g == 0:
				c.Store(0, low)
			case g == 1:
				c.Store(0, high)
			case g == 2 && i%2 == 0:
				c.Swap(0, low, high)
			default:
				if v := c.Load(0); v != 0 && v != low && v != high {
					odd[g]++
				}
			}
		}
	})
	if odd != [4]int{} {
		t.Errorf("values that nobody stored: %v", odd)
	}
}

// Two goroutines store in a cell each, and then load the other's: in any total order, one of the Loads comes behind both Stores.
func TestOperationsOnTwoCellsHaveAnOrder(t *testing.T) {
	const rounds = 30000
	c := atom.New(2 * rounds)
	var loaded [2][rounds]uint64
	inGoroutines(2, func(g int) {
		for r := range rounds {
			c.Store(2*r+g, 1)
			loaded[g][r] = c.Load(2*r + 1 - g)
		}
	})
	for r := range rounds {
		if loaded[0][r] == 0 && loaded[1][r] == 0 {
			t.Fatalf("round %d: both Loads came before both Stores", r)
		}
	}
}

// What a goroutine wrote before a Store, another one sees after a Load of what was stored.
func TestALoadComesBehindItsStore(t *testing.T) {
	const rounds = 30000
	c := atom.New(2)
	var wrong [2]int
	inGoroutines(2, func(g int) {
		for r := range uint64(rounds) {
			if g == 0 {
				c.Store(0, r)
				c.Store(1, r)
				continue
			}
			second := c.Load(1)
			if c.Load(0) < second {
				wrong[g]++
			}
		}
	})
	if wrong[1] != 0 {
		t.Errorf("%d times the second Store came before the first", wrong[1])
	}
}

func TestGoroutinesDoNotChangeOtherCells(t *testing.T) {
	const goroutines, times = 8, 5000
	c := atom.New(goroutines)
	inGoroutines(goroutines, func(g int) {
		for range times {
			v := c.Load(g)
			c.Store(g, v+2)
			c.Swap(g, v+2, v+3)
			c.Add(g, top)
		}
	})
	want := make([]uint64, goroutines)
	for g := range want {
		want[g] = 2 * times
	}
	wantAll(t, c, want...)
	wantSteps(t, c, 4*goroutines*times)
}

// P4.2, P4.3

func TestSums(t *testing.T) {
	for name, f := range sums() {
		for _, row := range []struct{ goroutines, times int }{
			{4, 100}, {1, 1}, {1, 7}, {2, 1}, {3, 5}, {7, 11}, {16, 999}, {2, 5000}, {8, 10000},
			{0, 0}, {0, 1}, {0, 5}, {0, mostTimes}, {1, 0}, {5, 0}, {mostGoroutines, 0},
			{mostGoroutines, 1}, {mostGoroutines - 1, 2}, {mostGoroutines, 100}, {1, mostTimes}, {1, mostTimes - 1}, {3, mostTimes},
		} {
			if got, want := f(row.goroutines, row.times), row.goroutines*row.times; got != want {
				t.Errorf("%s(%d, %d) = %d, want %d", name, row.goroutines, row.times, got, want)
			}
		}
	}
}

func TestSumsOfTheMost(t *testing.T) {
	for name, f := range sums() {
		if got := f(mostGoroutines, mostTimes); got != mostGoroutines*mostTimes {
			t.Errorf("%s = %d", name, got)
		}
	}
}

// wrongSums are arguments of which one is not allowed, or both; some products look right.
func wrongSums() [][2]int {
	wrong := [][2]int{{-1, -1}, {-4, -100}, {mostGoroutines + 1, mostTimes + 1}, {math.MinInt, math.MinInt}, {-1, mostTimes + 1}}
	for _, g := range []int{-1, -4, math.MinInt32, math.MinInt, mostGoroutines + 1, 2 * mostGoroutines, 256 + 4, 1<<32 + 4, math.MaxInt} {
		for _, n := range []int{0, 1, 5, mostTimes} {
			wrong = append(wrong, [2]int{g, n})
		}
	}
	for _, n := range []int{-1, -5, math.MinInt32, math.MinInt, mostTimes + 1, 1<<16 + 5, 1<<32 + 5, math.MaxInt} {
		for _, g := range []int{0, 1, 2, mostGoroutines} {
			wrong = append(wrong, [2]int{g, n})
		}
	}
	return wrong
}

func TestSumsOfWrongNumbers(t *testing.T) {
	for name, f := range sums() {
		for _, row := range wrongSums() {
			if got := f(row[0], row[1]); got != 0 {
				t.Errorf("%s(%d, %d) = %d", name, row[0], row[1], got)
			}
		}
	}
}

// started tells how many goroutines the program has started so far.
func started() int {
	sample := []metrics.Sample{{Name: "/sched/goroutines-created:goroutines"}}
	metrics.Read(sample)
	return int(sample[0].Value.Uint64())
}

// startedBy tells how many goroutines f starts: the least of several tries, as the runtime may start some of its own.
func startedBy(f func()) int {
	least := math.MaxInt
	for range 5 {
		before := started()
		f()
		least = min(least, started()-before)
	}
	return least
}

func TestSumsStartGoroutines(t *testing.T) {
	for name, f := range sums() {
		for _, goroutines := range []int{0, 1, 2, 5, 33, mostGoroutines} {
			if n := startedBy(func() { f(goroutines, 3) }); n != goroutines {
				t.Errorf("%s of %d starts %d goroutines", name, goroutines, n)
			}
		}
		for _, row := range wrongSums() {
			if n := startedBy(func() { f(row[0], row[1]) }); n != 0 {
				t.Errorf("%s(%d, %d) starts %d goroutines", name, row[0], row[1], n)
			}
		}
	}
}

// A goroutine whose work has ended may be counted for a moment longer: so this waits for that.
func TestSumsLeaveNoGoroutine(t *testing.T) {
	before := runtime.NumGoroutine()
	for _, f := range sums() {
		f(mostGoroutines, 50)
		f(mostGoroutines+1, 50)
	}
	for end := time.Now().Add(20 * time.Second); runtime.NumGoroutine() > before; time.Sleep(time.Millisecond) {
		if time.Now().After(end) {
			t.Fatalf("%d goroutines, %d before", runtime.NumGoroutine(), before)
		}
	}
}

// Calls keep nothing: neither the ones before, nor others at the same time, change what one returns.
func TestSumsTogether(t *testing.T) {
	for name, f := range sums() {
		var got [6]int
		inGoroutines(len(got), func(g int) { got[g] = f(g+1, 300) + f(1, g) })
		for g, n := range got {
			if want := (g+1)*300 + g; n != want {
				t.Errorf("%s: the call %d: %d, want %d", name, g, n, want)
			}
		}
	}
}

// P4.3

// pair are atomic cells, and ordinary ones that are used likewise.
type pair struct{ atomic, plain *cells.Cells }

// answers are the results of one operation on the cell i: a number, and a truth.
func answers(c *cells.Cells, op, i int, v, w uint64) (uint64, bool) {
	switch op {
	case 0:
		return c.Load(i), false
	case 1:
		return 0, c.Store(i, v)
	case 2:
		return 0, c.Swap(i, v, w)
	}
	return c.Add(i, v), false
}

func (p pair) check(t *testing.T, op, i int, v, w uint64) {
	t.Helper()
	a, isA := answers(p.atomic, op, i, v, w)
	b, isB := answers(p.plain, op, i, v, w)
	if a != b || isA != isB {
		t.Fatalf("operation %d of the cell %d, %d, %d: %d, %v; others: %d, %v", op, i, v, w, a, isA, b, isB)
	}
	if p.atomic.Steps() != p.plain.Steps() || !slices.Equal(p.atomic.All(), p.plain.All()) {
		t.Fatalf("after operation %d of the cell %d, %d, %d: %v; others: %v", op, i, v, w, p.atomic.All(), p.plain.All())
	}
}

func TestAtomicCellsAreAsOthers(t *testing.T) {
	someValues := []uint64{0, 1, 2, 3, 1 << 32, 1 << 63, top - 1, top}
	for _, n := range []int{0, 1, 2, 5, 33} {
		p := pair{atom.New(n), cells.New(n)}
		next := mixer(uint64(n))
		pick := func() uint64 { return someValues[next()%uint64(len(someValues))] }
		for range 4000 {
			i := int(next()%uint64(n+3)) - 1
			p.check(t, int(next()%4), i, pick(), pick())
		}
	}
}

func TestAtomicCellsAreAsOthersAtEachValue(t *testing.T) {
	values := []uint64{0, 1, 5, 1<<31 + 1, 1<<32 - 1, 1 << 32, 1<<32 + 5, 1<<63 - 1, 1 << 63, 1<<63 + 5, top - 1, top}
	p := pair{atom.New(2), cells.New(2)}
	for op := range 4 {
		for _, before := range values {
			for _, v := range values {
				for i := -1; i < 3; i++ {
					p.check(t, 1, 0, before, 0)
					p.check(t, op, i, v, ^v)
				}
			}
		}
	}
}
