package script_test

import (
	"errors"
	"math"
	"regexp"
	"slices"
	"strconv"
	"strings"
	"testing"

	"doorkeeper/api"
	"doorkeeper/script"
)

// The numbers as the document has them, for references that share nothing with the package.
const (
	step     = 0
	timed    = 1
	spurious = 2

	greatestThread = 99999
)

// steps are picks of these threads, all of the kind PickStep.
func steps(threads ...int) []api.Pick {
	l := []api.Pick{}
	for _, t := range threads {
		l = append(l, api.Pick{Thread: t, Kind: step})
	}
	return l
}

// picks are of these threads and kinds, in turn.
func picks(numbers ...int) []api.Pick {
	l := []api.Pick{}
	for i := 0; i < len(numbers); i += 2 {
		l = append(l, api.Pick{Thread: numbers[i], Kind: numbers[i+1]})
	}
	return l
}

// others are picks that are no step of a thread from 0 on, or of one that no test counts.
var others = picks(0, timed, 1, spurious, -1, step, 9, step, 0, -1, 1, 3)

// lists calls do with each list of at most so many of these picks. The list is used again for the next call.
func lists(from []api.Pick, most int, do func(l []api.Pick)) {
	var grow func(l []api.Pick)
	grow = func(l []api.Pick) {
		do(l)
		if len(l) == most {
			return
		}
		for _, p := range from {
			grow(append(l, p))
		}
	}
	grow(make([]api.Pick, 0, most))
}

// mixer yields the same numbers in each run, with mixed bits.
func mixer(state uint64) func(n int) int {
	return func(n int) int {
		state += 0x9e3779b97f4a7c15
		z := (state ^ state>>30) * 0xbf58476d1ce4e5b9
		z = (z ^ z>>27) * 0x94d049bb133111eb
		return int((z ^ z>>31) % uint64(n))
	}
}

// mixed is a list of so many picks, steps of the first few threads among them.
func mixed(n int, next func(n int) int) []api.Pick {
	l := make([]api.Pick, n)
	for i := range l {
		l[i] = api.Pick{Thread: next(7) - 1, Kind: max(0, next(9)-5)}
	}
	return l
}

// slowFair looks for each thread through each k consecutive picks, by the words of the document.
func slowFair(l []api.Pick, threads, k int) bool {
	if threads < 1 || k < 1 {
		return false
	}
	for from := 0; from+k <= len(l); from++ {
		for t := range threads {
			if !slices.Contains(l[from:from+k], api.Pick{Thread: t, Kind: step}) {
				return false
			}
		}
	}
	return true
}

// slowFill cuts the list into parts of k - threads picks, puts the steps behind each whole part, and behind all of it.
func slowFill(l []api.Pick, threads, k int) []api.Pick {
	if threads < 1 || k <= threads {
		return nil
	}
	var round, all []api.Pick
	for t := range threads {
		round = append(round, api.Pick{Thread: t, Kind: step})
	}
	for len(l) >= k-threads {
		all = append(append(all, l[:k-threads]...), round...)
		l = l[k-threads:]
	}
	return append(append(all, l...), round...)
}

// P7.1

func TestDecodeEachByte(t *testing.T) {
	for b := range 256 {
		want := api.Pick{Thread: b % 64}
		switch {
		case b >= 192:
			want.Kind = timed
		case b >= 128:
			want.Kind = spurious
		}
		if got := script.Decode(string([]byte{byte(b)})); !slices.Equal(got, []api.Pick{want}) {
			t.Errorf("Decode of %02x = %v, want %v", b, got, want)
		}
	}
}

func TestDecode(t *testing.T) {
	for _, c := range []struct {
		s    string
		want []api.Pick
	}{
		{"", nil},
		{"\x03\x83\xc3\x43", picks(3, step, 3, spurious, 3, timed, 3, step)},
		{"\x00\x3f\x40\x7f\x80\xbf\xc0\xff", picks(0, step, 63, step, 0, step, 63, step, 0, spurious, 63, spurious, 0, timed, 63, timed)},
		// octets, not runes: of one that is encoded in two, and of others that encode none
		{"\u00e9", picks(3, timed, 41, spurious)},
		{"\xff\xff\x80", picks(63, timed, 63, timed, 0, spurious)},
		{"1 t", picks(49, step, 32, step, 52, step)},
	} {
		if got := script.Decode(c.s); !slices.Equal(got, c.want) {
			t.Errorf("Decode(%q) = %v, want %v", c.s, got, c.want)
		}
	}
}

func TestDecodeManyBytes(t *testing.T) {
	next := mixer(1)
	b := make([]byte, 1<<20)
	for i := range b {
		b[i] = byte(next(256))
	}
	l := script.Decode(string(b))
	if len(l) != len(b) {
		t.Fatalf("%d picks of %d bytes", len(l), len(b))
	}
	for i, p := range l {
		if one := script.Decode(string(b[i : i+1])); p != one[0] {
			t.Fatalf("pick %d of %02x is %v, want %v", i, b[i], p, one[0])
		}
	}
}

// P7.2

func TestFair(t *testing.T) {
	withTime := picks(0, step, 1, step, 1, timed, 0, step)
	for _, c := range []struct {
		l          []api.Pick
		threads, k int
		want       bool
	}{
		{steps(0, 1, 0, 1), 2, 2, true},
		{steps(0, 0, 1), 2, 2, false},
		{withTime, 2, 3, true},
		{withTime, 2, 2, false},
		// fewer than k picks, and as many
		{nil, 1, 1, true},
		{nil, 5, 2, true},
		{steps(7), 2, 2, true},
		{steps(7, 7, 7), 2, 4, true},
		{steps(7, 7, 7, 7), 2, 4, false},
		{steps(0, 0, 0, 1), 2, 4, true},
		{steps(0, 0, 0, 1), 2, 5, true},
		// each k consecutive picks, the first ones and the last ones among them
		{steps(0, 1, 1, 0, 1), 2, 2, false},
		{steps(0, 1, 0, 1, 1), 2, 2, false},
		{steps(1, 1, 0, 1, 0), 2, 2, false},
		{steps(0, 1, 2, 0, 1, 2, 0), 3, 3, true},
		{steps(0, 1, 2, 0, 2, 1, 0), 3, 3, false},
		{steps(0, 1, 2, 0, 2, 1, 0), 3, 4, true},
		// there are not k threads among less than k picks
		{steps(0), 2, 1, false},
		{steps(0, 1, 2), 4, 3, false},
		{steps(0), math.MaxInt, 1, false},
		{nil, math.MaxInt, math.MaxInt, true},
		{steps(0, 1), 1, math.MaxInt, true},
		// other picks count for no thread
		{picks(0, timed), 1, 1, false},
		{picks(0, spurious), 1, 1, false},
		{picks(0, 3), 1, 1, false},
		{picks(0, -1), 1, 1, false},
		{steps(-1), 1, 1, false},
		{steps(1), 1, 1, false},
		{steps(math.MinInt), 1, 1, false},
		{steps(0, 5, 0, -5), 1, 2, true},
		{steps(0, 2, -1, 0), 2, 3, false},
	} {
		if got := script.Fair(c.l, c.threads, c.k); got != c.want {
			t.Errorf("Fair(%v, %d, %d) = %v", c.l, c.threads, c.k, got)
		}
	}
}

func TestFairOfNoThreadsOrNoK(t *testing.T) {
	for _, l := range [][]api.Pick{nil, steps(0), steps(0, 0, 0), steps(0, 1, 0, 1)} {
		for _, n := range []int{0, -1, -2, math.MinInt} {
			for _, good := range []int{1, 2, 100, math.MaxInt} {
				if script.Fair(l, n, good) {
					t.Errorf("Fair(%v, %d, %d)", l, n, good)
				}
				if script.Fair(l, good, n) {
					t.Errorf("Fair(%v, %d, %d)", l, good, n)
				}
			}
			if script.Fair(l, n, n) {
				t.Errorf("Fair(%v, %d, %d)", l, n, n)
			}
		}
	}
}

func TestFairOfAllShortLists(t *testing.T) {
	lists(append(steps(0, 1, 2), others[:3]...), 6, func(l []api.Pick) {
		for threads := -1; threads <= 4; threads++ {
			for k := -1; k <= len(l)+1; k++ {
				if got := script.Fair(l, threads, k); got != slowFair(l, threads, k) {
					t.Fatalf("Fair(%v, %d, %d) = %v", l, threads, k, got)
				}
			}
		}
	})
}

func TestFairOfMixedLists(t *testing.T) {
	next := mixer(2)
	for range 500 {
		l := mixed(next(200), next)
		for threads := 1; threads <= 6; threads++ {
			for _, k := range []int{threads, 2 * threads, 5 * threads, 20 * threads, 40 * threads} {
				if got := script.Fair(l, threads, k); got != slowFair(l, threads, k) {
					t.Fatalf("Fair(%v, %d, %d) = %v", l, threads, k, got)
				}
			}
		}
	}
}

func TestFairOfALongList(t *testing.T) {
	const threads, rounds = 1000, 1000
	var l []api.Pick
	for i := range threads * rounds {
		l = append(l, api.Pick{Thread: i % threads, Kind: step})
	}
	if !script.Fair(l, threads, threads) || script.Fair(l, threads, threads-1) {
		t.Error("threads in turn")
	}
	l[len(l)-1].Kind = timed
	if script.Fair(l, threads, threads) || !script.Fair(l, threads, threads+1) || !script.Fair(l, threads, threads*rounds/2) {
		t.Error("threads in turn, but for the last one")
	}
}

func TestFill(t *testing.T) {
	for _, c := range []struct {
		l          []api.Pick
		threads, k int
		want       []api.Pick
	}{
		{steps(5, 6, 7), 2, 4, steps(5, 6, 0, 1, 7, 0, 1)},
		{nil, 2, 4, steps(0, 1)},
		{[]api.Pick{}, 2, 4, steps(0, 1)},
		{nil, 1, 2, steps(0)},
		{nil, 3, math.MaxInt, steps(0, 1, 2)},
		{steps(5), 1, 3, steps(5, 0)},
		{steps(9), 1, math.MaxInt, steps(9, 0)},
		{steps(5, 6, 7, 8, 9), 3, 5, steps(5, 6, 0, 1, 2, 7, 8, 0, 1, 2, 9, 0, 1, 2)},
		// after every k - threads picks, and at the end: both, where they come together
		{steps(5, 6), 2, 4, steps(5, 6, 0, 1, 0, 1)},
		{steps(5, 6), 1, 2, steps(5, 0, 6, 0, 0)},
		{steps(5, 6, 7), 2, 5, steps(5, 6, 7, 0, 1, 0, 1)},
		{steps(5, 6, 7, 8), 2, 5, steps(5, 6, 7, 0, 1, 8, 0, 1)},
		// what is inserted is not counted, and what is in the list is not looked at
		{steps(0, 1, 0, 1), 2, 5, steps(0, 1, 0, 0, 1, 1, 0, 1)},
		{others, 1, 5, picks(0, timed, 1, spurious, -1, step, 9, step, 0, step, 0, -1, 1, 3, 0, step)},
	} {
		if got := script.Fill(c.l, c.threads, c.k); !slices.Equal(got, c.want) {
			t.Errorf("Fill(%v, %d, %d) = %v, want %v", c.l, c.threads, c.k, got, c.want)
		}
	}
}

func TestFillNone(t *testing.T) {
	for _, l := range [][]api.Pick{nil, steps(5), steps(5, 6, 7)} {
		for _, c := range [][2]int{
			{0, 4}, {-1, 4}, {0, 0}, {0, 1}, {-1, 0}, {-5, -1}, {math.MinInt, 0}, {math.MinInt, math.MaxInt}, {-1, math.MaxInt},
			{2, 2}, {2, 1}, {1, 1}, {1, 0}, {2, -1}, {1, math.MinInt}, {100, 99}, {math.MaxInt, 0},
			{math.MaxInt, math.MaxInt}, {math.MaxInt, math.MinInt}, {math.MinInt, math.MinInt},
		} {
			if got := script.Fill(l, c[0], c[1]); len(got) != 0 {
				t.Errorf("Fill(%v, %d, %d) = %v, want none", l, c[0], c[1], got)
			}
		}
	}
}

// The document promises nothing of results of more than 2^31 - 1 items; but each call ends.
func TestFillOfTooManyPicksEnds(t *testing.T) {
	for _, c := range []struct {
		l          []api.Pick
		threads, k int
	}{
		{nil, math.MaxInt - 1, math.MaxInt},
		{nil, 1 << 31, math.MaxInt},
		{steps(5), math.MaxInt - 1, math.MaxInt},
		{steps(5, 6, 7), 1 << 62, 1<<62 + 1},
		{steps(5, 6, 7), 1 << 61, 1<<61 + 1},
		{steps(5, 6, 7), 1 << 30, 1<<30 + 1},
	} {
		if got := script.Fill(c.l, c.threads, c.k); len(got) != 0 {
			t.Errorf("Fill(%v, %d, %d): %d picks", c.l, c.threads, c.k, len(got))
		}
	}
}

func TestFillOfAllShortLists(t *testing.T) {
	lists(append(steps(0, 1, 5), others[:3]...), 5, func(l []api.Pick) {
		for threads := -1; threads <= 4; threads++ {
			for k := -1; k <= threads+len(l)+2; k++ {
				if got, want := script.Fill(l, threads, k), slowFill(l, threads, k); !slices.Equal(got, want) {
					t.Fatalf("Fill(%v, %d, %d) = %v, want %v", l, threads, k, got, want)
				}
			}
		}
	})
}

func TestFillKeepsNothing(t *testing.T) {
	l := steps(5, 6, 7)
	a, b := script.Fill(l, 2, 4), script.Fill(l, 2, 4)
	clear(a)
	l[0].Thread = 8
	if want := steps(5, 6, 0, 1, 7, 0, 1); !slices.Equal(b, want) {
		t.Errorf("results share memory, with each other or with the argument: %v", b)
	}
	if want := steps(8, 6, 7); !slices.Equal(l, want) {
		t.Errorf("Fill, or who has its result, changed the argument: %v", l)
	}
}

// An argument with room behind its end must be left as it is there, too.
func TestArgumentsAreNotChanged(t *testing.T) {
	whole := steps(5, 6, 7, 8, 9, 10, 11, 12)
	kept := slices.Clone(whole)
	script.Fill(whole[:3], 2, 4)
	script.Fair(whole[:3], 2, 2)
	script.Print(whole[:3])
	if !slices.Equal(whole, kept) {
		t.Errorf("%v became %v", kept, whole)
	}
}

// P7.3

func TestPrint(t *testing.T) {
	for _, c := range []struct {
		l    []api.Pick
		want string
	}{
		{nil, ""},
		{[]api.Pick{}, ""},
		{steps(0), "0"},
		{picks(12, step, 3, timed), "12 3t"},
		{picks(3, step, 3, spurious, 3, timed, 3, step), "3 3s 3t 3"},
		{picks(0, timed, 0, spurious), "0t 0s"},
		{picks(10, step, 100, timed, 1000, spurious, 10000, step), "10 100t 1000s 10000"},
		{picks(99999, step, 99999, timed, 99999, spurious), "99999 99999t 99999s"},
		{picks(100000, step, 100000, timed, 100000, spurious), "- - -"},
		{picks(-1, step, -1, timed, -1, spurious), "- - -"},
		{picks(math.MaxInt, step, math.MinInt, step, 1<<32, step, 1<<16, step), "- - - 65536"},
		{picks(1, 3, 1, -1, 1, math.MaxInt, 1, math.MinInt, -1, 3), "- - - - -"},
		{picks(1, 4, 7, step, 1, 256, 8, timed), "- 7 - 8t"},
	} {
		if got := script.Print(c.l); got != c.want {
			t.Errorf("Print(%v) = %q, want %q", c.l, got, c.want)
		}
	}
}

func TestPrintEachThread(t *testing.T) {
	for thread := -10; thread <= greatestThread+10; thread++ {
		for kind, letter := range []string{"", "t", "s"} {
			want := strconv.Itoa(thread) + letter
			if thread < 0 || thread > greatestThread {
				want = "-"
			}
			if got := script.Print(picks(thread, kind)); got != want {
				t.Fatalf("thread %d, kind %d: %q", thread, kind, got)
			}
		}
	}
}

func TestParse(t *testing.T) {
	for _, c := range []struct {
		s    string
		want []api.Pick
	}{
		{"", nil},
		{" ", nil},
		{"     ", nil},
		{"0", steps(0)},
		{"0t", picks(0, timed)},
		{"0s", picks(0, spurious)},
		{"12  3t", picks(12, step, 3, timed)},
		{" 12 3t", picks(12, step, 3, timed)},
		{"12 3t ", picks(12, step, 3, timed)},
		{"   12     3t      ", picks(12, step, 3, timed)},
		{"9 8 7t 6s 5", picks(9, step, 8, step, 7, timed, 6, spurious, 5, step)},
		{"99999 99999t 99999s", picks(99999, step, 99999, timed, 99999, spurious)},
		{"10 100 1000 10000 10101", steps(10, 100, 1000, 10000, 10101)},
		{"1" + strings.Repeat(" ", 100000) + "2", steps(1, 2)},
	} {
		if got, err := script.Parse(c.s); err != nil || !slices.Equal(got, c.want) {
			t.Errorf("Parse(%.50q) = %v, %v, want %v", c.s, got, err, c.want)
		}
	}
}

// wantForm tests that there are no picks, and ErrForm with this index.
func wantForm(t *testing.T, s string, at int) {
	t.Helper()
	l, err := script.Parse(s)
	if len(l) != 0 {
		t.Errorf("Parse(%.50q) = %v, want none", s, l)
	}
	f, is := err.(*api.Fault)
	if !is || f == nil {
		t.Errorf("Parse(%.50q): the error is %v, want a *api.Fault", s, err)
		return
	}
	if want := (api.Fault{Code: api.ErrForm, At: at}); *f != want || !errors.Is(err, api.ErrForm) {
		t.Errorf("Parse(%.50q): %+v, want %+v", s, *f, want)
	}
}

// wrong are words that are none.
var wrong = []string{
	"x", "-", "t", "s", "01", "00", "00000", "01t", "00s", "010", "00001", "099999",
	"100000", "999999", "123456t", "123456s", "000000", "1234567890", "99999999999999999999", "18446744073709551617",
	"1x", "1T", "1S", "1tt", "1ss", "1ts", "1st", "t1", "s1", "1t1", "12345ts", "1-", "1.", "1,2", "1;",
	"-1", "+1", "-0", "+0", "--", "-t", "1_0", "0x1", "0b1", "0o1", "1e1", "1.0", "a", "1a", "1\x00", "\x00",
	"1\t", "\t1", "1\n", "\n", "\t", "1\r", "1\v2", "1\t2", "1\n2", "1\u00a02", "\u00a0", "1\u20032", "\u2028",
	"\u0661", "\uff11", "1\u0374", "1\u017f", "\xff", "1\xff", "1\x80t", "\xc3", "\u00e9", "5\u00e9",
	strings.Repeat("1", 100000), strings.Repeat("0", 100000), "1" + strings.Repeat("t", 100000), strings.Repeat("x", 100000),
}

func TestParseRefuses(t *testing.T) {
	for _, w := range wrong {
		wantForm(t, w, 0)
		wantForm(t, "   "+w+"   ", 0)
		wantForm(t, w+" 1", 0)
		wantForm(t, "1 "+w, 1)
		wantForm(t, "  0  1t   2s 99999    "+w+" 7", 4)
		wantForm(t, "1 2 "+w+" x "+w, 2)
	}
	wantForm(t, "1 x", 1)
	wantForm(t, "01", 0)
	wantForm(t, script.Print(picks(1, timed, 100000, step, 2, step)), 1)
	wantForm(t, script.Print(picks(1, timed, 2, step, 3, 3)), 2)
	wantForm(t, strings.Repeat("1 ", 100000)+"x", 100000)
}

var aWord = regexp.MustCompile(`^(0|[1-9][0-9]{0,4})(|t|s)$`)

// slowParse goes by the words between single blanks, and returns the index of a word that is none, or -1.
func slowParse(s string) (l []api.Pick, at int) {
	i := 0
	for _, w := range strings.Split(s, " ") {
		if w == "" {
			continue
		}
		m := aWord.FindStringSubmatch(w)
		if m == nil {
			return nil, i
		}
		thread, _ := strconv.Atoi(m[1])
		l = append(l, api.Pick{Thread: thread, Kind: map[string]int{"": step, "t": timed, "s": spurious}[m[2]]})
		i++
	}
	return l, -1
}

// wantParsed compares Parse with slowParse.
func wantParsed(t *testing.T, s string) {
	t.Helper()
	want, at := slowParse(s)
	if at >= 0 {
		wantForm(t, s, at)
		return
	}
	if got, err := script.Parse(s); err != nil || !slices.Equal(got, want) {
		t.Errorf("Parse(%.50q) = %v, %v, want %v", s, got, err, want)
	}
}

func TestParseAllShortStrings(t *testing.T) {
	var grow func(s string)
	grow = func(s string) {
		wantParsed(t, s)
		if len(s) < 6 && !t.Failed() {
			for _, c := range " 019tsx" {
				grow(s + string(c))
			}
		}
	}
	grow("")
}

func TestParseEachOctet(t *testing.T) {
	for b := range 256 {
		c := string([]byte{byte(b)})
		for _, s := range []string{c, "1" + c, c + "1", "1" + c + "2", "1 " + c, c + " 1", "1t" + c, "1s" + c + "2"} {
			wantParsed(t, s)
		}
	}
}

func TestParseMixedStrings(t *testing.T) {
	next := mixer(3)
	// most are words, so that longer strings are valid, too
	parts := []string{" ", "  ", " 7 ", " 12t ", " 345s ", " 6789 ", " 99999t ", " 0 ", "1", "t", " -", "0"}
	for range 20000 {
		var s strings.Builder
		for range next(12) {
			s.WriteString(parts[min(next(len(parts)), next(len(parts)))])
		}
		wantParsed(t, s.String())
	}
}

// P7.4

// isAmong tells whether l is some of the picks of all, in order: those that are left when the rounds are taken out.
func isAmong(l, all []api.Pick) bool {
	for _, p := range all {
		if len(l) > 0 && p == l[0] {
			l = l[1:]
		}
	}
	return len(l) == 0
}

// wantFilled tests that what Fill returns is fair, and contains the picks of l.
func wantFilled(t *testing.T, l []api.Pick, threads, k int) {
	t.Helper()
	all := script.Fill(l, threads, k)
	if !script.Fair(all, threads, k) || !slowFair(all, threads, k) {
		t.Fatalf("Fill(%v, %d, %d) = %v is not fair", l, threads, k, all)
	}
	if !isAmong(l, all) {
		t.Fatalf("Fill(%v, %d, %d) = %v does not contain them", l, threads, k, all)
	}
}

func TestWhatFillReturnsIsFair(t *testing.T) {
	lists(others, 5, func(l []api.Pick) {
		for threads := 1; threads <= 3; threads++ {
			for k := threads + 1; k <= threads+len(l)+1; k++ {
				wantFilled(t, l, threads, k)
			}
		}
	})
	next := mixer(4)
	for range 2000 {
		threads := 1 + next(10)
		wantFilled(t, mixed(next(100), next), threads, threads+1+next(20))
	}
}

func TestParseReturnsWhatPrintPrinted(t *testing.T) {
	var l []api.Pick
	for thread := range greatestThread + 1 {
		for kind := range 3 {
			l = append(l, api.Pick{Thread: thread, Kind: kind})
		}
	}
	wantReturned(t, l)
	wantReturned(t, nil)
	next := mixer(5)
	for range 2000 {
		some := make([]api.Pick, next(20))
		for i := range some {
			some[i] = l[next(len(l))]
		}
		wantReturned(t, some)
	}
	b := make([]byte, 256)
	for i := range b {
		b[i] = byte(i)
	}
	wantReturned(t, script.Decode(string(b)))
}

func wantReturned(t *testing.T, l []api.Pick) {
	t.Helper()
	if got, err := script.Parse(script.Print(l)); err != nil || !slices.Equal(got, l) {
		t.Errorf("%d picks, printed, are parsed as %d others: %v", len(l), len(got), err)
	}
}
