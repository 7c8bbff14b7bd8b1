package word_test

import (
	"math"
	"testing"

	"doorkeeper/api"
	"doorkeeper/word"
)

// The limits as the document has them, for a reference that shares nothing with the package.
const (
	greatestHash    = 16777215
	greatestOwner   = 32765
	greatestCount   = 255
	greatestMonitor = 4095
	greatestGen     = 4095
)

// slowWord is the word of a valid header, by powers of two.
func slowWord(h api.Header) uint64 {
	w := uint64(h.Tag) + uint64(h.Hash)*8
	switch h.Tag {
	case api.TagBiased, api.TagThin:
		w += uint64(h.Owner)*134217728 + uint64(h.Count)*4398046511104
	case api.TagFat:
		w += uint64(h.Mon)*134217728 + uint64(h.Gen)*549755813888
	}
	return w
}

// slowOpen reads a word by division, and keeps what is valid.
func slowOpen(w uint64) (api.Header, bool) {
	h := api.Header{Tag: int(w % 8), Hash: int(w / 8 % 16777216)}
	rest := w / 134217728
	switch h.Tag {
	case api.TagBiased, api.TagThin:
		h.Owner, h.Count = int(rest%32768), int(rest/32768%256)
		rest /= 32768 * 256
	case api.TagFat:
		h.Mon, h.Gen = int(rest%4096), int(rest/4096%4096)
		rest /= 4096 * 4096
	}
	if rest != 0 || !slowValid(h) {
		return api.Header{}, false
	}
	return h, true
}

// slowValid tells whether a header is valid, by the words of the document.
func slowValid(h api.Header) bool {
	in := func(n, least, most int) bool { return n >= least && n <= most }
	locked, fat := h.Owner != 0 || h.Count != 0, h.Mon != 0 || h.Gen != 0
	if !in(h.Hash, 0, greatestHash) {
		return false
	}
	switch h.Tag {
	case api.TagFresh, api.TagFree:
		return !locked && !fat
	case api.TagBiased:
		return in(h.Owner, 0, greatestOwner) && in(h.Count, 0, greatestCount) && !fat
	case api.TagThin:
		return in(h.Owner, 0, greatestOwner) && in(h.Count, 1, greatestCount) && !fat
	case api.TagFat:
		return in(h.Mon, 0, greatestMonitor) && in(h.Gen, 0, greatestGen) && !locked
	}
	return false
}

// mixer yields the same numbers in each run, with mixed bits.
func mixer(state uint64) func() uint64 {
	return func() uint64 {
		state += 0x9e3779b97f4a7c15
		z := (state ^ state>>30) * 0xbf58476d1ce4e5b9
		z = (z ^ z>>27) * 0x94d049bb133111eb
		return z ^ z>>31
	}
}

var (
	hashes   = []int{0, 1, 2, 5, 255, 256, 12345, 0x555555, 0xaaaaaa, 1 << 23, greatestHash - 1, greatestHash}
	owners   = []int{0, 1, 2, 77, 255, 256, 16383, 16384, greatestOwner - 1, greatestOwner}
	biases   = []int{0, 1, 2, 127, 128, greatestCount - 1, greatestCount}
	depths   = []int{1, 2, 3, 127, 128, greatestCount - 1, greatestCount}
	monitors = []int{0, 1, 7, 2047, 2048, greatestMonitor - 1, greatestMonitor}
	gens     = []int{0, 1, 9, 2047, 2048, greatestGen - 1, greatestGen}
)

// valid lists valid headers of all tags, with the least and the greatest numbers among them.
func valid() []api.Header {
	var l []api.Header
	for _, hash := range hashes {
		l = append(l, api.Header{Tag: api.TagFresh, Hash: hash}, api.Header{Tag: api.TagFree, Hash: hash})
		for _, owner := range owners {
			for i := range biases {
				l = append(l, api.Header{Tag: api.TagBiased, Owner: owner, Count: biases[i], Hash: hash})
				l = append(l, api.Header{Tag: api.TagThin, Owner: owner, Count: depths[i], Hash: hash})
			}
		}
		for _, mon := range monitors {
			for _, gen := range gens {
				l = append(l, api.Header{Tag: api.TagFat, Mon: mon, Gen: gen, Hash: hash})
			}
		}
	}
	return l
}

// outside lists numbers that are less than 0, or greater than most; some look right when the bits above are cut off.
func outside(most int) []int {
	return []int{
		-1, -2, -most - 1, math.MinInt32, math.MinInt, math.MinInt + 1,
		most + 1, most + 2, 2*most + 2, 1 << 31, 1 << 32, 1<<32 + 1, 1 << 62, math.MaxInt,
	}
}

// wrong lists headers each of which is valid but for one number. Of a number that a tag does not use, the greatest is 0.
func wrong() []api.Header {
	var l []api.Header
	for _, row := range []struct{ tag, count, mostOwner, mostCount, mostMon, mostGen int }{
		{tag: api.TagFresh},
		{tag: api.TagFree},
		{tag: api.TagBiased, mostOwner: greatestOwner, mostCount: greatestCount},
		{tag: api.TagThin, count: 1, mostOwner: greatestOwner, mostCount: greatestCount},
		{tag: api.TagFat, mostMon: greatestMonitor, mostGen: greatestGen},
	} {
		right := api.Header{Tag: row.tag, Count: row.count, Hash: 5}
		spoil := func(most int, put func(h *api.Header, n int)) {
			for _, n := range outside(most) {
				h := right
				put(&h, n)
				l = append(l, h)
			}
		}
		spoil(greatestHash, func(h *api.Header, n int) { h.Hash = n })
		spoil(row.mostOwner, func(h *api.Header, n int) { h.Owner = n })
		spoil(row.mostCount, func(h *api.Header, n int) { h.Count = n })
		spoil(row.mostMon, func(h *api.Header, n int) { h.Mon = n })
		spoil(row.mostGen, func(h *api.Header, n int) { h.Gen = n })
	}
	return l
}

// none lists words that are no header's.
func none() []uint64 {
	l := []uint64{
		5, 6, 7, math.MaxUint64, 1 << 63, 1<<63 | 1, 1<<63 | 4,
		3, 3 + 5<<3, 3 + 2<<27, // thin, with a count of 0
		2 + 32766<<27, 2 + 32767<<27, // biased to threads that can't be
		3 + 32766<<27 + 1<<42, 3 + 32767<<27 + 255<<42,
	}
	for tag, used := range []int{27, 27, 50, 50, 51} {
		w := uint64(tag)
		if tag == api.TagThin {
			w += 1 << 42
		}
		for bit := used; bit < 64; bit++ {
			l = append(l, w|1<<bit)
		}
	}
	for tag := uint64(5); tag < 8; tag++ {
		for bit := 3; bit < 64; bit++ {
			l = append(l, tag|1<<bit)
		}
	}
	return l
}

// P2.1

func TestPackExamples(t *testing.T) {
	for _, c := range []struct {
		h    api.Header
		want uint64
		is   bool
	}{
		{api.Header{}, 0, true},
		{api.Header{Tag: api.TagFree}, 1, true},
		{api.Header{Tag: api.TagBiased}, 2, true},
		{api.Header{Tag: api.TagThin, Owner: 2, Count: 1, Hash: 5}, 3 + 5*8 + 2*134217728 + 4398046511104, true},
		{api.Header{Tag: api.TagFat, Mon: 7, Gen: 1}, 4 + 7*134217728 + 549755813888, true},
		{api.Header{Tag: api.TagFresh, Hash: 16777215}, 16777215 * 8, true},
		{api.Header{Tag: api.TagThin, Owner: 32765, Count: 255, Hash: 16777215}, 3 + 16777215*8 + 32765*134217728 + 255*4398046511104, true},
		{api.Header{Tag: api.TagFat, Mon: 4095, Gen: 4095, Hash: 16777215}, 1<<51 - 4, true},
		{api.Header{Tag: api.TagThin}, 0, false},
		{api.Header{Tag: api.TagFree, Owner: 1}, 0, false},
	} {
		if got, is := word.Pack(c.h); got != c.want || is != c.is {
			t.Errorf("Pack(%+v) = %d, %v", c.h, got, is)
		}
	}
}

func TestPackAndOpenOfValidHeaders(t *testing.T) {
	for _, h := range valid() {
		w, is := word.Pack(h)
		if !is || w != slowWord(h) {
			t.Errorf("Pack(%+v) = %x, %v, want %x", h, w, is, slowWord(h))
		}
		if got, is := word.Open(slowWord(h)); !is || got != h {
			t.Errorf("Open(%x) = %+v, %v, want %+v", slowWord(h), got, is, h)
		}
	}
}

func TestPackRefusesWrongNumbers(t *testing.T) {
	for _, h := range wrong() {
		if w, is := word.Pack(h); is || w != 0 {
			t.Errorf("Pack(%+v) = %x, %v", h, w, is)
		}
	}
}

func TestPackRefusesWrongTags(t *testing.T) {
	for _, tag := range []int{-1, -8, 5, 6, 7, 8, 9, 16, 1 << 32, math.MinInt, math.MaxInt} {
		for _, h := range []api.Header{{}, {Hash: 7}, {Owner: 1, Count: 1}, {Mon: 1}} {
			h.Tag = tag
			if w, is := word.Pack(h); is || w != 0 {
				t.Errorf("Pack(%+v) = %x, %v", h, w, is)
			}
		}
	}
}

func TestPackOfNumbersAroundTheLimits(t *testing.T) {
	near := func(most int) []int { return []int{-1, 0, 1, most - 1, most, most + 1} }
	for tag := -1; tag <= 8; tag++ {
		for _, hash := range near(greatestHash) {
			for _, owner := range near(greatestOwner) {
				for _, count := range near(greatestCount) {
					for _, h := range []api.Header{
						{Tag: tag, Hash: hash, Owner: owner, Count: count},
						{Tag: tag, Hash: hash, Owner: owner, Count: count, Mon: 1},
						{Tag: tag, Hash: hash, Owner: owner, Count: count, Gen: 1},
					} {
						checkPack(t, h)
					}
				}
			}
			for _, mon := range near(greatestMonitor) {
				for _, gen := range near(greatestGen) {
					for _, h := range []api.Header{
						{Tag: tag, Hash: hash, Mon: mon, Gen: gen},
						{Tag: tag, Hash: hash, Mon: mon, Gen: gen, Owner: 1},
						{Tag: tag, Hash: hash, Mon: mon, Gen: gen, Count: 1},
					} {
						checkPack(t, h)
					}
				}
			}
		}
	}
}

// checkPack compares Pack with the reference.
func checkPack(t *testing.T, h api.Header) {
	t.Helper()
	want, valid := uint64(0), slowValid(h)
	if valid {
		want = slowWord(h)
	}
	if got, is := word.Pack(h); is != valid || got != want {
		t.Fatalf("Pack(%+v) = %x, %v, want %x, %v", h, got, is, want, valid)
	}
}

func TestOpenRefusesWordsOfNoHeader(t *testing.T) {
	for _, w := range none() {
		if h, is := word.Open(w); is || h != (api.Header{}) {
			t.Errorf("Open(%x) = %+v, %v", w, h, is)
		}
	}
}

func TestOpenOfEachBitTurned(t *testing.T) {
	for _, h := range valid() {
		for bit := range 64 {
			checkOpen(t, slowWord(h)^1<<bit)
		}
	}
}

func TestOpenOfMixedWords(t *testing.T) {
	next := mixer(1)
	for range 200000 {
		w := next()
		checkOpen(t, w)
		// shorter ones, most of which are headers' words
		checkOpen(t, w>>(64-51))
		checkOpen(t, w>>(64-50))
		checkOpen(t, w>>(64-27))
	}
}

// checkOpen compares Open with the reference.
func checkOpen(t *testing.T, w uint64) {
	t.Helper()
	want, valid := slowOpen(w)
	if got, is := word.Open(w); is != valid || got != want {
		t.Fatalf("Open(%x) = %+v, %v, want %+v, %v", w, got, is, want, valid)
	}
}

// P2.2

// change is one of the four functions, with numbers, and the header that it asks for.
type change struct {
	name string
	do   func(w uint64) (uint64, bool)
	to   api.Header
}

func biased(owner, count int) change {
	return change{"Biased", func(w uint64) (uint64, bool) { return word.Biased(w, owner, count) },
		api.Header{Tag: api.TagBiased, Owner: owner, Count: count}}
}

func thin(owner, count int) change {
	return change{"Thin", func(w uint64) (uint64, bool) { return word.Thin(w, owner, count) },
		api.Header{Tag: api.TagThin, Owner: owner, Count: count}}
}

func fat(mon, gen int) change {
	return change{"Fat", func(w uint64) (uint64, bool) { return word.Fat(w, mon, gen) },
		api.Header{Tag: api.TagFat, Mon: mon, Gen: gen}}
}

func free() change {
	return change{"Free", word.Free, api.Header{Tag: api.TagFree}}
}

// allowed are changes to valid headers.
func allowed() []change {
	l := []change{free()}
	for i := range biases {
		l = append(l, biased(owners[i], biases[i]), thin(owners[i], depths[i]), fat(monitors[i], gens[len(gens)-1-i]))
	}
	return append(l,
		biased(greatestOwner, 0), biased(0, greatestCount), biased(greatestOwner, greatestCount),
		thin(greatestOwner, 1), thin(0, greatestCount), thin(greatestOwner, greatestCount),
		fat(greatestMonitor, greatestGen), fat(0, 0))
}

// refused are changes to headers that are not valid.
func refused() []change {
	l := []change{thin(0, 0), thin(7, 0), thin(greatestOwner, 0), thin(-1, 0), thin(-1, -1)}
	for _, n := range outside(greatestOwner) {
		l = append(l, biased(n, 0), biased(n, 1), thin(n, 1), thin(n, greatestCount))
	}
	for _, n := range outside(greatestCount) {
		l = append(l, biased(0, n), biased(greatestOwner, n), thin(0, n), thin(greatestOwner, n))
	}
	for _, n := range outside(greatestMonitor) {
		l = append(l, fat(n, 0), fat(n, greatestGen), fat(0, n), fat(greatestMonitor, n))
	}
	return l
}

func TestChangesOfValidWords(t *testing.T) {
	changes := allowed()
	for _, h := range valid() {
		for _, c := range changes {
			want := c.to
			want.Hash = h.Hash
			if got, is := c.do(slowWord(h)); !is || got != slowWord(want) {
				t.Fatalf("%s of %+v to %+v = %x, %v, want %x", c.name, h, c.to, got, is, slowWord(want))
			}
		}
	}
}

func TestChangesToWrongNumbers(t *testing.T) {
	changes := refused()
	for i, h := range valid() {
		if i%17 != 0 {
			continue
		}
		for _, c := range changes {
			if got, is := c.do(slowWord(h)); is || got != 0 {
				t.Fatalf("%s of %+v to %+v = %x, %v", c.name, h, c.to, got, is)
			}
		}
	}
}

func TestChangesOfWordsOfNoHeader(t *testing.T) {
	for _, w := range none() {
		for _, c := range append(allowed(), refused()...) {
			if got, is := c.do(w); is || got != 0 {
				t.Fatalf("%s of %x to %+v = %x, %v", c.name, w, c.to, got, is)
			}
		}
	}
}

func TestEachCount(t *testing.T) {
	w := slowWord(api.Header{Hash: 12345})
	for count := -1; count <= 600; count++ {
		b, isBiased := word.Biased(w, 77, count)
		if isBiased != (count >= 0 && count <= greatestCount) || isBiased != (b != 0) {
			t.Errorf("Biased with the count %d: %x, %v", count, b, isBiased)
		}
		v, isThin := word.Thin(w, 77, count)
		if isThin != (count >= 1 && count <= greatestCount) || isThin != (v != 0) {
			t.Errorf("Thin with the count %d: %x, %v", count, v, isThin)
		}
	}
}

// P2.3

func TestEachOwnerMonitorAndGeneration(t *testing.T) {
	seen := map[uint64]api.Header{}
	for owner := 0; owner <= greatestOwner; owner++ {
		checkOneWord(t, seen, api.Header{Tag: api.TagBiased, Owner: owner, Hash: 3})
		checkOneWord(t, seen, api.Header{Tag: api.TagThin, Owner: owner, Count: owner%greatestCount + 1, Hash: 3})
	}
	for n := 0; n <= greatestMonitor; n++ {
		checkOneWord(t, seen, api.Header{Tag: api.TagFat, Mon: n, Gen: greatestGen - n, Hash: 3})
	}
}

func TestNoTwoHeadersHaveTheSameWord(t *testing.T) {
	seen := map[uint64]api.Header{}
	for _, h := range valid() {
		checkOneWord(t, seen, h)
	}
}

// checkOneWord tests that a header's word opens as the header, and that no other header came with it.
func checkOneWord(t *testing.T, seen map[uint64]api.Header, h api.Header) {
	t.Helper()
	w, is := word.Pack(h)
	if back, so := word.Open(w); !is || !so || back != h {
		t.Fatalf("%+v comes back as %+v, by %x", h, back, w)
	}
	if other, was := seen[w]; was && other != h {
		t.Fatalf("%+v and %+v have the word %x", h, other, w)
	}
	seen[w] = h
}

func TestPackOfWhatOpens(t *testing.T) {
	next := mixer(2)
	opened := 0
	for i := range 200000 {
		w := next() >> (64 - 51 + i%25)
		h, is := word.Open(w)
		if !is {
			continue
		}
		opened++
		if back, so := word.Pack(h); !so || back != w {
			t.Errorf("%x comes back as %x, by %+v", w, back, h)
		}
	}
	if opened < 50000 {
		t.Errorf("only %d words were opened", opened)
	}
}

func TestHashStays(t *testing.T) {
	next := mixer(3)
	changes := append(allowed(), refused()...)
	for _, hash := range hashes {
		w := slowWord(api.Header{Hash: hash})
		for range 2000 {
			v, is := changes[next()%uint64(len(changes))].do(w)
			if !is {
				continue
			}
			h, so := word.Open(v)
			if !so || h.Hash != hash {
				t.Fatalf("the hash %d became %d: %x, %v", hash, h.Hash, v, so)
			}
			w = v
		}
	}
}
