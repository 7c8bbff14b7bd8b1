package permit_test

import (
	"math"
	"runtime"
	"runtime/metrics"
	"sync"
	"sync/atomic"
	"testing"
	"time"

	"doorkeeper/permit"
)

// The limits as the document has them.
const (
	mostThreads    = 32766
	mostGoroutines = 64
	mostRounds     = 1000
)

const (
	// long is more than anything takes that does not wait for ever.
	long = time.Minute
	// short is enough for a goroutine that does not wait to end, most times.
	short = 20 * time.Millisecond
)

// wantEnd does work, and tests that it ends.
func wantEnd(t *testing.T, work func()) {
	t.Helper()
	ended := make(chan struct{})
	go func() {
		work()
		close(ended)
	}()
	select {
	case <-ended:
	case <-time.After(long):
		t.Fatal("this does not end")
	}
}

// inGoroutines does work in so many goroutines, which start together, and tests that all end.
func inGoroutines(t *testing.T, goroutines int, work func(g int)) {
	t.Helper()
	start := make(chan struct{})
	var all sync.WaitGroup
	for g := range goroutines {
		all.Go(func() {
			<-start
			work(g)
		})
	}
	close(start)
	wantEnd(t, all.Wait)
}

// allThere returns only when so many goroutines, each of its own round, have called it.
func allThere(goroutines int) func(round int) {
	var came atomic.Int64
	return func(round int) {
		came.Add(1)
		for came.Load() < int64(goroutines*(round+1)) {
			runtime.Gosched()
		}
	}
}

// mixer yields the same numbers in each run, with mixed bits.
func mixer(state uint64) func() uint64 {
	return func() uint64 {
		state += 0x9e3779b97f4a7c15
		z := (state ^ state>>30) * 0xbf58476d1ce4e5b9
		z = (z ^ z>>27) * 0x94d049bb133111eb
		return z ^ z>>31
	}
}

// blocked blocks a thread in a goroutine, which sends what Block returned.
func blocked(p *permit.Permits, t int) <-chan bool {
	ended := make(chan bool, 1)
	go func() { ended <- p.Block(t) }()
	return ended
}

// wantBlock tests that a Block ends, with this result.
func wantBlock(t *testing.T, ended <-chan bool, want bool) {
	t.Helper()
	select {
	case got := <-ended:
		if got != want {
			t.Errorf("Block = %v, want %v", got, want)
		}
	case <-time.After(long):
		t.Fatal("Block does not end")
	}
}

// wantWaiting tests that a Block has not ended, nor ends soon.
func wantWaiting(t *testing.T, ended <-chan bool) {
	t.Helper()
	select {
	case got := <-ended:
		t.Fatalf("Block does not wait, and returns %v", got)
	case <-time.After(short):
	}
}

// wantHas tests which threads have a permit.
func wantHas(t *testing.T, p *permit.Permits, want ...bool) {
	t.Helper()
	for thread, is := range want {
		if p.Has(thread) != is {
			t.Errorf("Has(%d) = %v", thread, !is)
		}
	}
}

// wantNothing tests that threads that do not exist have, get and wait for nothing.
func wantNothing(t *testing.T, p *permit.Permits, threads ...int) {
	t.Helper()
	for _, thread := range threads {
		if p.Give(thread) {
			t.Errorf("Give(%d) is true", thread)
		}
		if p.Has(thread) {
			t.Errorf("Has(%d) is true", thread)
		}
		if p.Take(thread) {
			t.Errorf("Take(%d) is true", thread)
		}
		wantBlock(t, blocked(p, thread), false)
	}
}

// P5.1

func TestNew(t *testing.T) {
	for _, threads := range []int{1, 2, 3, 8, 255, 256, 1000, 1 << 14, mostThreads - 1, mostThreads} {
		p := permit.New(threads)
		if p == nil {
			t.Fatalf("New(%d) is nil", threads)
		}
		if p.Len() != threads {
			t.Errorf("New(%d) has %d threads", threads, p.Len())
		}
		wantHas(t, p, make([]bool, threads)...)
		wantNothing(t, p, -1, threads, threads+1)
	}
}

func TestNewOfWrongNumbers(t *testing.T) {
	for _, threads := range []int{0, -1, -2, -mostThreads, math.MinInt32, math.MinInt, mostThreads + 1, mostThreads + 2, 1 << 16, 1<<16 + 1, 1 << 31, 1 << 32, 1<<32 + 1, math.MaxInt} {
		if permit.New(threads) != nil {
			t.Errorf("New(%d) is not nil", threads)
		}
	}
}

func TestNewPermitsAreTheirOwn(t *testing.T) {
	a, b := permit.New(2), permit.New(2)
	a.Give(0)
	wantHas(t, a, true, false)
	wantHas(t, b, false, false)
}

func TestLenDoesNotChange(t *testing.T) {
	p := permit.New(3)
	p.Give(0)
	p.Give(3)
	p.Take(1)
	p.Block(0)
	if p.Len() != 3 {
		t.Errorf("%d threads", p.Len())
	}
}

// P5.2

func TestExamples(t *testing.T) {
	p := permit.New(2)
	got := [6]bool{p.Take(0), p.Give(0), p.Give(0), p.Has(0), p.Take(0), p.Take(0)}
	if got != [6]bool{false, true, true, true, true, false} {
		t.Errorf("Take, Give, Give, Has, Take, Take = %v", got)
	}
	if p.Give(2) || p.Has(-1) || p.Block(2) {
		t.Error("there are more than two threads")
	}
	if !p.Give(1) || !p.Block(1) || p.Has(1) {
		t.Error("Block does not take what Give gave")
	}
}

func TestEachThreadHasItsOwn(t *testing.T) {
	const threads = 5
	for given := range threads {
		p := permit.New(threads)
		if !p.Give(given) {
			t.Errorf("Give(%d) is false", given)
		}
		for other := range threads {
			if p.Has(other) != (other == given) {
				t.Errorf("thread %d, after Give(%d): %v", other, given, p.Has(other))
			}
			if other != given && p.Take(other) {
				t.Errorf("the thread %d takes the permit of %d", other, given)
			}
		}
		if !p.Take(given) {
			t.Errorf("the thread %d does not find its permit", given)
		}
	}
}

func TestHasTakesNothing(t *testing.T) {
	p := permit.New(1)
	p.Give(0)
	for range 5 {
		wantHas(t, p, true)
	}
	if !p.Take(0) {
		t.Error("the permit is gone")
	}
	for range 5 {
		wantHas(t, p, false)
	}
}

func TestTheLastThreadIsAsTheOthers(t *testing.T) {
	const last = mostThreads - 1
	p := permit.New(mostThreads)
	if p.Take(last) || !p.Give(last) || !p.Has(last) || p.Has(last-1) || p.Has(0) || !p.Take(last) || p.Has(last) {
		t.Error("Take, Give, Has")
	}
	if !p.Give(last) || !p.Block(last) || p.Take(last) {
		t.Error("Give, Block")
	}
}

func TestNoSuchThread(t *testing.T) {
	p := permit.New(3)
	none := []int{-1, -2, -3, 3, 4, 5, 1 << 8, 1 << 16, 1<<16 + 1, 1 << 32, 1<<32 + 1, math.MinInt32, math.MaxInt32, math.MinInt, math.MaxInt}
	wantNothing(t, p, none...)
	wantHas(t, p, false, false, false)
	p.Give(0)
	p.Give(2)
	wantNothing(t, p, none...)
	wantHas(t, p, true, false, true)
}

func TestNilPermits(t *testing.T) {
	var p *permit.Permits
	if p.Len() != 0 {
		t.Errorf("%d threads", p.Len())
	}
	wantNothing(t, p, 0, 1, -1, math.MinInt, math.MaxInt)
}

// A value that New did not make has no threads.
func TestZeroPermits(t *testing.T) {
	p := &permit.Permits{}
	if p.Len() != 0 {
		t.Errorf("%d threads", p.Len())
	}
	wantNothing(t, p, 0, 1, -1, math.MinInt, math.MaxInt)
}

// model is what the permits of threads are: given, or not.
type model []bool

func (m model) is(thread int) bool { return thread >= 0 && thread < len(m) }

func (m model) has(thread int) bool { return m.is(thread) && m[thread] }

func (m model) set(thread int, has bool) {
	if m.is(thread) {
		m[thread] = has
	}
}

// check does one of Give, Take, Has and Block with both, and compares the results; Block only where it does not wait.
func (m model) check(t *testing.T, p *permit.Permits, op, thread int) {
	t.Helper()
	got, want := false, m.has(thread)
	switch {
	case op == 0:
		got, want = p.Give(thread), m.is(thread)
		m.set(thread, true)
	case op == 1:
		got = p.Take(thread)
		m.set(thread, false)
	case op == 2 && (want || !m.is(thread)):
		got = p.Block(thread)
		m.set(thread, false)
	default:
		got = p.Has(thread)
	}
	if got != want {
		t.Fatalf("operation %d of the thread %d: %v, want %v", op, thread, got, want)
	}
	wantHas(t, p, m...)
}

func TestPermitsAreAsTheModel(t *testing.T) {
	for _, threads := range []int{1, 2, 3, 7, 40} {
		p, m, next := permit.New(threads), make(model, threads), mixer(uint64(threads))
		for range 5000 {
			m.check(t, p, int(next()%4), int(next()%uint64(threads+2))-1)
		}
	}
}

func TestBlockWaits(t *testing.T) {
	p := permit.New(3)
	ended := blocked(p, 1)
	wantWaiting(t, ended)
	// What other threads get does not concern this one.
	p.Give(0)
	p.Give(2)
	p.Give(3)
	p.Take(1)
	wantWaiting(t, ended)
	p.Give(1)
	wantBlock(t, ended, true)
	wantHas(t, p, true, false, true)
}

func TestBlockTakesThePermitAway(t *testing.T) {
	p := permit.New(1)
	p.Give(0)
	wantBlock(t, blocked(p, 0), true)
	wantHas(t, p, false)
	again := blocked(p, 0)
	wantWaiting(t, again)
	p.Give(0)
	wantBlock(t, again, true)
	wantHas(t, p, false)
}

// While one thread waits, the others go on.
func TestBlockHoldsUpNoOtherThread(t *testing.T) {
	p := permit.New(3)
	ended := blocked(p, 0)
	wantWaiting(t, ended)
	if p.Len() != 3 || p.Take(1) || !p.Give(1) || !p.Has(1) || !p.Take(1) {
		t.Error("another thread")
	}
	p.Give(2)
	wantBlock(t, blocked(p, 2), true)
	if p.Has(0) || p.Take(0) {
		t.Error("a thread that waits has a permit")
	}
	p.Give(0)
	wantBlock(t, ended, true)
}

// Goroutines that wait for the same permit get one each, one after the other.
func TestOneOfThoseThatWaitGetsThePermit(t *testing.T) {
	const goroutines = 5
	p := permit.New(1)
	ended := make(chan bool, goroutines)
	for range goroutines {
		go func() { ended <- p.Block(0) }()
	}
	for range goroutines {
		wantWaiting(t, ended)
		p.Give(0)
		wantBlock(t, ended, true)
	}
	wantWaiting(t, ended)
	wantHas(t, p, false)
}

func TestOneOfThoseThatTakeGetsThePermit(t *testing.T) {
	const goroutines, rounds = 4, 10000
	p, wait := permit.New(rounds), allThere(goroutines)
	for r := range rounds {
		p.Give(r)
	}
	var taken [goroutines][rounds]bool
	inGoroutines(t, goroutines, func(g int) {
		for r := range rounds {
			wait(r)
			taken[g][r] = p.Take(r)
		}
	})
	for r := range rounds {
		n := 0
		for g := range goroutines {
			if taken[g][r] {
				n++
			}
		}
		if n != 1 {
			t.Errorf("the permit %d was taken %d times", r, n)
		}
	}
}

// However many give a permit at the same time, the thread has one.
func TestOneOfThoseThatGiveCounts(t *testing.T) {
	const goroutines, rounds = 4, 10000
	p, wait := permit.New(rounds), allThere(goroutines)
	var refused [goroutines]int
	inGoroutines(t, goroutines, func(g int) {
		for r := range rounds {
			wait(r)
			if !p.Give(r) {
				refused[g]++
			}
		}
	})
	if refused != [goroutines]int{} {
		t.Errorf("Give is false: %v", refused)
	}
	for r := range rounds {
		if !p.Has(r) || !p.Take(r) || p.Take(r) {
			t.Fatalf("the thread %d has no permit, or two", r)
		}
	}
}

// A thread that has a permit keeps it while others give it one: there is no moment without.
func TestAPermitIsKeptWhileOthersGive(t *testing.T) {
	const goroutines, times = 4, 50000
	p := permit.New(1)
	p.Give(0)
	gone := 0
	inGoroutines(t, goroutines, func(g int) {
		for range times {
			switch {
			case g > 0:
				p.Give(0)
			case !p.Has(0):
				gone++
			}
		}
	})
	if gone != 0 {
		t.Errorf("%d times there was none", gone)
	}
}

// Takes and Blocks compete for each permit: it goes to one of them, so that as many are taken as were given.
func TestGiversAndTakers(t *testing.T) {
	const each, times = 3, 3000
	p := permit.New(1)
	room := make(chan struct{}, 1)
	var taken [2 * each]int
	inGoroutines(t, 3*each, func(g int) {
		switch {
		case g < each:
			for range times {
				// Only one permit at a time is given, so that none counts as one that was given before.
				room <- struct{}{}
				p.Give(0)
			}
		case g < 2*each:
			for range times / 2 {
				p.Block(0)
				taken[g-each]++
				<-room
			}
		default:
			for taken[g-each] < times/2 {
				if p.Take(0) {
					taken[g-each]++
					<-room
				}
				runtime.Gosched()
			}
		}
	})
	total := 0
	for _, n := range taken {
		total += n
	}
	if total != each*times || p.Has(0) {
		t.Errorf("%d permits were taken, of %d; one is left: %v", total, each*times, p.Has(0))
	}
}

// Two goroutines pass permits to and fro; what one wrote before Give, the other one reads after Block, or Take.
func TestWhatWasWrittenBeforeGiveIsSeen(t *testing.T) {
	const rounds = 5000
	p := permit.New(2)
	shared, wrong := 0, [2]int{}
	wait := [2]func(){
		func() { p.Block(0) },
		func() {
			for !p.Take(1) {
				runtime.Gosched()
			}
		},
	}
	p.Give(0)
	inGoroutines(t, 2, func(g int) {
		for r := range rounds {
			wait[g]()
			if shared != 2*r+g {
				wrong[g]++
			}
			shared++
			p.Give(1 - g)
		}
	})
	if shared != 2*rounds || wrong != [2]int{} {
		t.Errorf("%d, and %v times another number than was written", shared, wrong)
	}
}

// All operations at once, on all threads and others: none panics, nor waits.
func TestOperationsTogether(t *testing.T) {
	const goroutines, threads, times = 8, 4, 5000
	p := permit.New(threads)
	inGoroutines(t, goroutines, func(g int) {
		next := mixer(uint64(g))
		for range times {
			thread := int(next()%(threads+2)) - 1
			is := thread >= 0 && thread < threads
			if p.Give(thread) != is {
				t.Errorf("Give(%d) = %v", thread, !is)
			}
			if (p.Has(thread) || p.Take(thread)) && !is || p.Len() != threads {
				t.Errorf("the thread %d", thread)
			}
			if !is && p.Block(thread) {
				t.Errorf("Block(%d) = true", thread)
			}
		}
	})
}

// P5.3, P5.4

func TestRelay(t *testing.T) {
	if got := permit.Relay(3, 5); got != 15 {
		t.Errorf("Relay(3, 5) = %d", got)
	}
	for _, threads := range []int{1, 2, 3, 4, 7, 16, 31, mostGoroutines - 1, mostGoroutines} {
		for _, rounds := range []int{0, 1, 2, 3, 25, 100, mostRounds - 1, mostRounds} {
			wantEnd(t, func() {
				if got := permit.Relay(threads, rounds); got != threads*rounds {
					t.Errorf("Relay(%d, %d) = %d", threads, rounds, got)
				}
			})
		}
	}
}

// wrongRelays are arguments of which one is not allowed, or both; some products look right.
func wrongRelays() [][2]int {
	wrong := [][2]int{{-1, -1}, {-3, -5}, {0, -1}, {mostGoroutines + 1, mostRounds + 1}, {math.MinInt, math.MinInt}, {-1, mostRounds + 1}}
	for _, threads := range []int{0, -1, -3, math.MinInt32, math.MinInt, mostGoroutines + 1, 2 * mostGoroutines, 256 + 3, mostThreads, 1<<32 + 3, math.MaxInt} {
		for _, rounds := range []int{0, 1, 5, mostRounds} {
			wrong = append(wrong, [2]int{threads, rounds})
		}
	}
	for _, rounds := range []int{-1, -5, math.MinInt32, math.MinInt, mostRounds + 1, 1<<16 + 5, 1<<32 + 5, math.MaxInt} {
		for _, threads := range []int{1, 2, mostGoroutines} {
			wrong = append(wrong, [2]int{threads, rounds})
		}
	}
	return wrong
}

func TestRelayOfWrongNumbers(t *testing.T) {
	for _, row := range wrongRelays() {
		if got := permit.Relay(row[0], row[1]); got != 0 {
			t.Errorf("Relay(%d, %d) = %d", row[0], row[1], got)
		}
	}
}

// started tells how many goroutines the program has started so far.
func started() int {
	sample := []metrics.Sample{{Name: "/sched/goroutines-created:goroutines"}}
	metrics.Read(sample)
	return int(sample[0].Value.Uint64())
}

// startedBy tells how many goroutines f starts: the least of several tries, as the runtime may start some of its own.
func startedBy(f func()) int {
	least := math.MaxInt
	for range 5 {
		before := started()
		f()
		least = min(least, started()-before)
	}
	return least
}

func TestRelayStartsGoroutines(t *testing.T) {
	for _, threads := range []int{1, 2, 5, 33, mostGoroutines} {
		for _, rounds := range []int{0, 3} {
			if n := startedBy(func() { permit.Relay(threads, rounds) }); n != threads {
				t.Errorf("Relay(%d, %d) starts %d goroutines", threads, rounds, n)
			}
		}
	}
	for _, row := range wrongRelays() {
		if n := startedBy(func() { permit.Relay(row[0], row[1]) }); n != 0 {
			t.Errorf("Relay(%d, %d) starts %d goroutines", row[0], row[1], n)
		}
	}
}

// A goroutine whose work has ended may be counted for a moment longer: so this waits for that.
func TestRelayLeavesNoGoroutine(t *testing.T) {
	before := runtime.NumGoroutine()
	for _, threads := range []int{1, 2, 5, mostGoroutines, mostGoroutines + 1} {
		permit.Relay(threads, 50)
	}
	for end := time.Now().Add(long); runtime.NumGoroutine() > before; time.Sleep(time.Millisecond) {
		if time.Now().After(end) {
			t.Fatalf("%d goroutines, %d before", runtime.NumGoroutine(), before)
		}
	}
}

// Calls keep nothing: neither the ones before, nor others at the same time, change what one returns.
func TestRelaysTogether(t *testing.T) {
	var got [6]int
	inGoroutines(t, len(got), func(g int) { got[g] = permit.Relay(g+1, 200) + permit.Relay(1, g) })
	for g, n := range got {
		if want := (g+1)*200 + g; n != want {
			t.Errorf("the call %d: %d, want %d", g, n, want)
		}
	}
}

// P5.4

func TestAPermitGivenInAdvanceIsNotLost(t *testing.T) {
	p := permit.New(2)
	for thread := range 2 {
		p.Give(thread)
	}
	time.Sleep(short)
	wantBlock(t, blocked(p, 1), true)
	wantBlock(t, blocked(p, 0), true)
}

func TestTwoPermitsCountAsOne(t *testing.T) {
	for _, times := range []int{2, 3, 100} {
		p := permit.New(2)
		for range times {
			if !p.Give(1) {
				t.Error("Give is false")
			}
		}
		wantBlock(t, blocked(p, 1), true)
		wantHas(t, p, false, false)
		if p.Take(1) {
			t.Error("there was a second one")
		}
		again := blocked(p, 1)
		wantWaiting(t, again)
		p.Give(1)
		wantBlock(t, again, true)
	}
}

// A round of the relay done by the permits' own operations, in an order that only the permits impose.
func TestPermitsImposeAnOrder(t *testing.T) {
	const goroutines, rounds = 5, 400
	p := permit.New(goroutines)
	var order []int
	p.Give(0)
	inGoroutines(t, goroutines, func(g int) {
		for range rounds {
			p.Block(g)
			order = append(order, g)
			p.Give((g + 1) % goroutines)
		}
	})
	if len(order) != goroutines*rounds {
		t.Fatalf("%d turns", len(order))
	}
	for i, g := range order {
		if g != i%goroutines {
			t.Fatalf("the turn %d was of %d", i, g)
		}
	}
	wantHas(t, p, true, false, false, false, false)
}
