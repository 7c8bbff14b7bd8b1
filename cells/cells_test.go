package cells_test

import (
	"math"
	"slices"
	"sync"
	"sync/atomic"
	"testing"

	"doorkeeper/cells"
)

// mostCells is the limit as the document has it.
const mostCells = 16777216

// top is the greatest value of a cell.
const top = math.MaxUint64

// shelf is a back that keeps what it is asked for, except its length.
type shelf struct {
	values []uint64
	asked  []request
}

type request struct {
	name string
	i    int
	v, w uint64
}

func (s *shelf) note(name string, i int, v, w uint64) {
	s.asked = append(s.asked, request{name, i, v, w})
}

func (s *shelf) Len() int { return len(s.values) }

func (s *shelf) Load(i int) uint64 {
	s.note("Load", i, 0, 0)
	return s.values[i]
}

func (s *shelf) Store(i int, v uint64) {
	s.note("Store", i, v, 0)
	s.values[i] = v
}

func (s *shelf) Swap(i int, old, new uint64) bool {
	s.note("Swap", i, old, new)
	if s.values[i] != old {
		return false
	}
	s.values[i] = new
	return true
}

func (s *shelf) Add(i int, d uint64) uint64 {
	s.note("Add", i, d, 0)
	s.values[i] += d
	return s.values[i]
}

// broken is a back that panics where its text says so.
type broken struct {
	*shelf
	where string
}

func (b broken) at(where string) {
	if b.where == where {
		panic(where)
	}
}

func (b broken) Len() int {
	b.at("Len")
	return b.shelf.Len()
}

// Load panics only beyond the cell 0, so that a list of all values has begun by then.
func (b broken) Load(i int) uint64 {
	if i > 0 {
		b.at("Load")
	}
	return b.shelf.Load(i)
}

func (b broken) Store(i int, v uint64) {
	b.at("Store")
	b.shelf.Store(i, v)
}

func (b broken) Swap(i int, old, new uint64) bool {
	b.at("Swap")
	return b.shelf.Swap(i, old, new)
}

func (b broken) Add(i int, d uint64) uint64 {
	b.at("Add")
	return b.shelf.Add(i, d)
}

// short is a back that says a length of less than 0.
type short struct{ *shelf }

func (short) Len() int { return -3 }

// shared is a back for several goroutines.
type shared []atomic.Uint64

func (s shared) Len() int                         { return len(s) }
func (s shared) Load(i int) uint64                { return s[i].Load() }
func (s shared) Store(i int, v uint64)            { s[i].Store(v) }
func (s shared) Swap(i int, old, new uint64) bool { return s[i].CompareAndSwap(old, new) }
func (s shared) Add(i int, d uint64) uint64       { return s[i].Add(d) }

// kinds are cells of each kind, of so many.
func kinds(n int) map[string]*cells.Cells {
	return map[string]*cells.Cells{
		"New":                 cells.New(n),
		"Over a shelf":        cells.Over(&shelf{values: make([]uint64, n)}),
		"Over atomic numbers": cells.Over(make(shared, n)),
	}
}

// outside are numbers of cells that do not exist where there are n; some look right when the bits above are cut off.
func outside(n int) []int {
	return []int{
		-1, -2, -n, -n - 1, math.MinInt32, math.MinInt, math.MinInt + 1,
		n, n + 1, 2*n + 1, mostCells + n, 1 << 31, 1 << 32, 1 << 62, math.MaxInt - 1, math.MaxInt,
	}
}

// mixer yields the same numbers in each run, with mixed bits.
func mixer(state uint64) func() uint64 {
	return func() uint64 {
		state += 0x9e3779b97f4a7c15
		z := (state ^ state>>30) * 0xbf58476d1ce4e5b9
		z = (z ^ z>>27) * 0x94d049bb133111eb
		return z ^ z>>31
	}
}

func wantAll(t *testing.T, c *cells.Cells, want ...uint64) {
	t.Helper()
	if got := c.All(); !slices.Equal(got, want) {
		t.Errorf("All = %v, want %v", got, want)
	}
}

func wantSteps(t *testing.T, c *cells.Cells, want int) {
	t.Helper()
	if got := c.Steps(); got != want {
		t.Errorf("Steps = %d, want %d", got, want)
	}
}

// wantNothing tests that no operation does anything at cells that do not exist: each answers 0 or false.
func wantNothing(t *testing.T, c *cells.Cells, numbers ...int) {
	t.Helper()
	for _, i := range numbers {
		if v := c.Load(i); v != 0 {
			t.Errorf("Load(%d) = %d", i, v)
		}
		if c.Store(i, 1) {
			t.Errorf("Store(%d) is true", i)
		}
		if c.Swap(i, 0, 1) {
			t.Errorf("Swap(%d, 0, 1) is true", i)
		}
		if c.Swap(i, 0, 0) {
			t.Errorf("Swap(%d, 0, 0) is true", i)
		}
		if v := c.Add(i, 1); v != 0 {
			t.Errorf("Add(%d, 1) = %d", i, v)
		}
	}
}

// P3.1

func TestNew(t *testing.T) {
	for _, n := range []int{0, 1, 2, 3, 8, 1000, 1<<16 + 1} {
		c := cells.New(n)
		if c == nil {
			t.Fatalf("New(%d) is nil", n)
		}
		if c.Len() != n {
			t.Errorf("New(%d) has %d cells", n, c.Len())
		}
		wantAll(t, c, make([]uint64, n)...)
		wantSteps(t, c, 0)
	}
}

func TestNewOfTheMost(t *testing.T) {
	c := cells.New(mostCells)
	if c == nil {
		t.Fatal("nil")
	}
	if c.Len() != mostCells {
		t.Errorf("%d cells", c.Len())
	}
	if c.Add(mostCells-1, 7) != 7 || c.Load(mostCells-1) != 7 || c.Load(0) != 0 {
		t.Error("the last cell is not as the others")
	}
	wantNothing(t, c, mostCells, -1)
}

func TestNewOfWrongNumbers(t *testing.T) {
	for _, n := range []int{-1, -2, -mostCells, math.MinInt32, math.MinInt, mostCells + 1, mostCells + 2, 1 << 31, 1 << 32, 1<<32 + 1, 1 << 62, math.MaxInt} {
		if cells.New(n) != nil {
			t.Errorf("New(%d) is not nil", n)
		}
	}
}

func TestOver(t *testing.T) {
	for n := range 5 {
		s := &shelf{values: make([]uint64, n)}
		for i := range n {
			s.values[i] = uint64(10 + i)
		}
		c := cells.Over(s)
		if c == nil {
			t.Fatalf("nil over %d", n)
		}
		if c.Len() != n {
			t.Errorf("%d cells over %d", c.Len(), n)
		}
		wantAll(t, c, s.values...)
		wantSteps(t, c, 0)
	}
}

func TestOverNil(t *testing.T) {
	if cells.Over(nil) != nil {
		t.Error("not nil")
	}
}

func TestOverABackIsTheBack(t *testing.T) {
	s := &shelf{values: make([]uint64, 3)}
	a, b := cells.Over(s), cells.Over(s)
	a.Store(1, 5)
	if s.values[1] != 5 || b.Load(1) != 5 {
		t.Error("what is stored does not come to the back")
	}
	s.values[1] = 9
	if a.Load(1) != 9 || a.Add(1, 1) != 10 || b.Load(1) != 10 {
		t.Error("what the back has is not what the cells have")
	}
	wantSteps(t, a, 3)
	wantSteps(t, b, 2)
}

func TestNewCellsAreTheirOwn(t *testing.T) {
	a, b := cells.New(2), cells.New(2)
	a.Store(0, 5)
	wantAll(t, a, 5, 0)
	wantAll(t, b, 0, 0)
	wantSteps(t, a, 1)
	wantSteps(t, b, 0)
}

// P3.2

func TestExample(t *testing.T) {
	for name, c := range kinds(3) {
		stored, no, yes := c.Store(1, 5), c.Swap(1, 4, 9), c.Swap(1, 5, 9)
		sum, v := c.Add(1, top), c.Load(1)
		if !stored || no || !yes || sum != 8 || v != 8 {
			t.Errorf("%s: %v, %v, %v, %d, %d", name, stored, no, yes, sum, v)
		}
		if v := c.Load(3); v != 0 {
			t.Errorf("%s: Load(3) = %d", name, v)
		}
		if c.Store(-1, 1) {
			t.Errorf("%s: Store(-1, 1) is true", name)
		}
		wantSteps(t, c, 5)
		wantAll(t, c, 0, 8, 0)
	}
}

func TestSwap(t *testing.T) {
	for _, row := range []struct {
		value, old, new uint64
		is              bool
	}{
		{0, 0, 0, true}, {0, 0, 1, true}, {0, 1, 2, false}, {0, 1, 0, false},
		{5, 5, 5, true}, {5, 5, 0, true}, {5, 4, 5, false}, {5, 6, 9, false}, {5, 0, 9, false},
		{top, top, 0, true}, {top, 0, 1, false}, {0, top, 1, false},
		{1<<32 + 5, 5, 9, false}, {5, 1<<32 + 5, 9, false}, {1<<63 + 5, 5, 9, false},
	} {
		for name, c := range kinds(1) {
			c.Store(0, row.value)
			want := row.value
			if row.is {
				want = row.new
			}
			if is, v := c.Swap(0, row.old, row.new), c.Load(0); is != row.is || v != want {
				t.Errorf("%s: Swap of %d, %d to %d: %v, %d", name, row.value, row.old, row.new, is, v)
			}
			wantSteps(t, c, 3)
		}
	}
}

func TestAddGoesRound(t *testing.T) {
	for _, row := range []struct{ value, d, want uint64 }{
		{0, 0, 0}, {0, 1, 1}, {5, 0, 5}, {5, 7, 12},
		{top, 1, 0}, {1, top, 0}, {top, top, top - 1}, {top - 1, 1, top}, {top, 0, top},
		{1 << 63, 1 << 63, 0}, {1<<63 + 1, 1<<63 + 2, 3}, {1<<32 - 1, 1, 1 << 32}, {1<<63 - 1, 1, 1 << 63},
	} {
		for name, c := range kinds(1) {
			c.Store(0, row.value)
			if sum, v := c.Add(0, row.d), c.Load(0); sum != row.want || v != row.want {
				t.Errorf("%s: %d and %d: Add %d, Load %d, want %d", name, row.value, row.d, sum, v, row.want)
			}
		}
	}
}

func TestStoreOfAnyValue(t *testing.T) {
	for name, c := range kinds(1) {
		for _, v := range []uint64{0, 1, 1<<31 + 1, 1 << 32, 1 << 63, top - 1, top, 0} {
			if !c.Store(0, v) || c.Load(0) != v {
				t.Errorf("%s: Store of %d: Load %d", name, v, c.Load(0))
			}
		}
	}
}

func TestCellsThatDoNotExist(t *testing.T) {
	for _, n := range []int{0, 1, 3, 8} {
		for name, c := range kinds(n) {
			want := make([]uint64, n)
			for i := range want {
				want[i] = uint64(100 + i)
				c.Store(i, want[i])
			}
			wantNothing(t, c, outside(n)...)
			wantSteps(t, c, n)
			wantAll(t, c, want...)
			if t.Failed() {
				t.Fatalf("%s, %d cells", name, n)
			}
		}
	}
}

func TestABackIsAskedOnceForEachOperation(t *testing.T) {
	s := &shelf{values: make([]uint64, 3)}
	c := cells.Over(s)
	c.Store(2, 5)
	c.Swap(2, 4, 9)
	c.Swap(2, 5, 9)
	c.Add(1, top)
	c.Load(0)
	want := []request{{"Store", 2, 5, 0}, {"Swap", 2, 4, 9}, {"Swap", 2, 5, 9}, {"Add", 1, top, 0}, {"Load", 0, 0, 0}}
	if !slices.Equal(s.asked, want) {
		t.Errorf("asked: %v, want %v", s.asked, want)
	}
	wantNothing(t, c, outside(3)...)
	if len(s.asked) != len(want) {
		t.Errorf("asked for cells that do not exist: %v", s.asked[len(want):])
	}
}

func TestAllIsNoOperation(t *testing.T) {
	for _, c := range kinds(4) {
		c.Store(0, 1)
		c.Store(3, 4)
		for range 5 {
			wantAll(t, c, 1, 0, 0, 4)
		}
		wantSteps(t, c, 2)
	}
	s := &shelf{values: []uint64{1, 2}}
	cells.Over(s).All()
	for _, r := range s.asked {
		if r.name != "Load" {
			t.Errorf("All asked for %v", r)
		}
	}
}

func TestAllIsTheCallers(t *testing.T) {
	for _, c := range kinds(2) {
		c.Store(0, 1)
		a, b := c.All(), c.All()
		a[0], a[1] = 7, 7
		if !slices.Equal(b, []uint64{1, 0}) {
			t.Error("two results share memory")
		}
		wantAll(t, c, 1, 0)
		c.Store(1, 2)
		if b[1] != 0 {
			t.Error("a result changes with the cells")
		}
	}
}

func TestLenAndStepsAreNoOperations(t *testing.T) {
	for _, c := range kinds(2) {
		for range 3 {
			if c.Len() != 2 {
				t.Errorf("%d cells", c.Len())
			}
			wantSteps(t, c, 0)
		}
	}
}

func TestNoCells(t *testing.T) {
	for name, c := range kinds(0) {
		if c == nil {
			t.Fatalf("%s: nil", name)
		}
		wantNone(t, c)
	}
}

func TestNilCells(t *testing.T) {
	wantNone(t, nil)
}

func TestCellsWithoutABack(t *testing.T) {
	wantNone(t, new(cells.Cells))
}

func TestABackOfANegativeLength(t *testing.T) {
	wantNone(t, cells.Over(short{&shelf{values: make([]uint64, 3)}}))
}

// wantNone tests that there are no cells, and that no call does anything.
func wantNone(t *testing.T, c *cells.Cells) {
	t.Helper()
	wantNothing(t, c, 0, 1, 2, -1, -3, -4, math.MinInt, math.MaxInt)
	if c.Len() != 0 {
		t.Errorf("%d cells", c.Len())
	}
	wantSteps(t, c, 0)
	wantAll(t, c)
}

func TestABackThatPanics(t *testing.T) {
	for _, where := range []string{"Load", "Store", "Swap", "Add"} {
		c := cells.Over(broken{&shelf{values: []uint64{3, 3}}, where})
		v, stored, was, sum := c.Load(1), c.Store(0, 5), c.Swap(1, 3, 4), c.Add(1, 1)
		if (v == 0) != (where == "Load") || stored != (where != "Store") || was != (where != "Swap") || (sum == 0) != (where == "Add") {
			t.Errorf("at %s: %d, %v, %v, %d", where, v, stored, was, sum)
		}
		wantSteps(t, c, 3)
		if got := c.All(); (len(got) == 0) != (where == "Load") {
			t.Errorf("at %s: All = %v", where, got)
		}
	}
	wantNone(t, cells.Over(broken{&shelf{values: []uint64{3, 3}}, "Len"}))
	wantNone(t, cells.Over((*shelf)(nil)))
}

func TestStepsOfSeveralGoroutines(t *testing.T) {
	const goroutines, times = 8, 20000
	c := cells.Over(make(shared, 2))
	start := make(chan struct{})
	var all sync.WaitGroup
	for range goroutines {
		all.Go(func() {
			<-start
			for range times {
				c.Add(0, 1)
				c.Swap(1, 9, 9)
				c.Load(2)
			}
		})
	}
	close(start)
	all.Wait()
	wantSteps(t, c, 2*goroutines*times)
	wantAll(t, c, goroutines*times, 0)
}

// P3.3

// checkOne does one operation on the cells and on the values that they should have, and reports how many operations it was.
func checkOne(t *testing.T, c *cells.Cells, values []uint64, op, i int, v, w uint64) int {
	t.Helper()
	exists := i >= 0 && i < len(values)
	before := uint64(0)
	if exists {
		before = values[i]
	}
	set := func(v uint64) {
		if exists {
			values[i] = v
		}
	}
	switch op {
	case 0:
		if got := c.Load(i); got != before {
			t.Fatalf("Load(%d) = %d, want %d", i, got, before)
		}
	case 1:
		set(v)
		if got := c.Store(i, v); got != exists {
			t.Fatalf("Store(%d, %d) = %v", i, v, got)
		}
	case 2:
		want := exists && before == v
		if want {
			set(w)
		}
		if got := c.Swap(i, v, w); got != want {
			t.Fatalf("Swap(%d, %d, %d) of %d = %v", i, v, w, before, got)
		}
	case 3:
		set(before + v)
		want := uint64(0)
		if exists {
			want = values[i]
		}
		if got := c.Add(i, v); got != want {
			t.Fatalf("Add(%d, %d) to %d = %d", i, v, before, got)
		}
	}
	if exists {
		return 1
	}
	return 0
}

func TestACellHasItsLastValue(t *testing.T) {
	someValues := []uint64{0, 1, 2, 3, 1 << 32, 1 << 63, top - 1, top}
	for _, n := range []int{0, 1, 2, 5, 33} {
		for name, c := range kinds(n) {
			next := mixer(uint64(n))
			pick := func() uint64 { return someValues[next()%uint64(len(someValues))] }
			values, steps := make([]uint64, n), 0
			for round := range 4000 {
				i := int(next()%uint64(n+3)) - 1
				steps += checkOne(t, c, values, int(next()%4), i, pick(), pick())
				if c.Steps() != steps {
					t.Fatalf("%s, %d cells, round %d: Steps = %d, want %d", name, n, round, c.Steps(), steps)
				}
				if got := c.All(); !slices.Equal(got, values) {
					t.Fatalf("%s, %d cells, round %d: All = %v, want %v", name, n, round, got, values)
				}
			}
		}
	}
}

func TestOtherCellsStay(t *testing.T) {
	const n = 70
	for name, c := range kinds(n) {
		want := make([]uint64, n)
		for i := range want {
			want[i] = uint64(i) * 0x0101010101010101
			c.Store(i, want[i])
		}
		for i := range want {
			c.Add(i, top)
			want[i]--
			c.Swap(i, want[i], ^want[i])
			want[i] = ^want[i]
			c.Swap(i, ^want[i], 1)
			c.Load(i)
			if got := c.All(); !slices.Equal(got, want) {
				t.Fatalf("%s: operations on the cell %d change others: %v", name, i, got)
			}
		}
	}
}
