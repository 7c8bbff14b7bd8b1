package field_test

import (
	"math"
	"slices"
	"testing"

	"doorkeeper/field"
)

// words are some with runs of bits, single bits, and mixed ones.
var words = []uint64{
	0, 1, 0x1230, 0xffff, 1 << 63, 1<<63 | 1,
	0x0123456789abcdef, 0xfedcba9876543210,
	0xaaaaaaaaaaaaaaaa, 0x5555555555555555, math.MaxUint64,
}

// wrong are fields that are not valid.
var wrong = []field.Field{
	{}, {0, 0}, {5, 0}, {64, 0},
	{0, -1}, {5, -3}, {64, -1}, {70, -10}, {0, math.MinInt},
	{-1, 1}, {-1, 65}, {-64, 64}, {math.MinInt, 1}, {math.MinInt, math.MaxInt},
	{0, 65}, {1, 64}, {63, 2}, {64, 1}, {65, 1},
	{math.MaxInt, 1}, {1, math.MaxInt}, {math.MaxInt, math.MaxInt}, {0, math.MaxInt},
	{math.MaxInt, math.MinInt}, {math.MinInt, math.MinInt}, {-1, -1},
}

// valid lists each field that a word can have.
func valid() []field.Field {
	var l []field.Field
	for at := range 64 {
		for wide := 1; at+wide <= 64; wide++ {
			l = append(l, field.Field{At: at, Wide: wide})
		}
	}
	return l
}

func bit(w uint64, i int) uint64 { return w >> i & 1 }

// slowOf is the value of a valid field, bit by bit.
func slowOf(f field.Field, w uint64) uint64 {
	v := uint64(0)
	for i := range f.Wide {
		v += bit(w, f.At+i) << i
	}
	return v
}

// slowMost is the greatest value of a valid field, bit by bit.
func slowMost(f field.Field) uint64 { return slowOf(f, math.MaxUint64) }

// slowPut is w with v, which fits, in a valid field, bit by bit.
func slowPut(f field.Field, w, v uint64) uint64 {
	out := uint64(0)
	for i := range 64 {
		b := bit(w, i)
		if i >= f.At && i < f.At+f.Wide {
			b = bit(v, i-f.At)
		}
		out += b << i
	}
	return out
}

func repeat(n, wide int) []int {
	l := make([]int, n)
	for i := range l {
		l[i] = wide
	}
	return l
}

// P1.1

func TestLay(t *testing.T) {
	for _, c := range []struct {
		widths []int
		want   []field.Field
	}{
		{nil, nil},
		{[]int{}, nil},
		{[]int{1}, []field.Field{{0, 1}}},
		{[]int{64}, []field.Field{{0, 64}}},
		{[]int{63}, []field.Field{{0, 63}}},
		{[]int{3, 24, 15}, []field.Field{{0, 3}, {3, 24}, {27, 15}}},
		{[]int{3, 24, 15, 8}, []field.Field{{0, 3}, {3, 24}, {27, 15}, {42, 8}}},
		{[]int{32, 32}, []field.Field{{0, 32}, {32, 32}}},
		{[]int{63, 1}, []field.Field{{0, 63}, {63, 1}}},
		{[]int{1, 63}, []field.Field{{0, 1}, {1, 63}}},
		{[]int{5, 5}, []field.Field{{0, 5}, {5, 5}}},
	} {
		if got := field.Lay(c.widths...); !slices.Equal(got, c.want) {
			t.Errorf("Lay(%v) = %v, want %v", c.widths, got, c.want)
		}
	}
}

func TestLayFillsAWordWithSingleBits(t *testing.T) {
	l := field.Lay(repeat(64, 1)...)
	if len(l) != 64 {
		t.Fatalf("%d fields", len(l))
	}
	for i, f := range l {
		if f != (field.Field{At: i, Wide: 1}) {
			t.Errorf("field %d is %v", i, f)
		}
	}
}

func TestLayNone(t *testing.T) {
	for _, widths := range [][]int{
		{0}, {-1}, {4, 0}, {0, 4}, {4, 0, 4}, {4, -1}, {-1, 4}, {5, -2, 5},
		{65}, {60, 5}, {5, 60}, {64, 1}, {1, 64}, {32, 32, 1}, {64, 64},
		{70, -10}, {-10, 70}, {64, 0}, {64, -1}, {65, -1}, {64, 1, -1},
		{math.MaxInt}, {math.MinInt},
		// sums that go round, and end up small
		{math.MaxInt, math.MaxInt, 2}, {1, math.MaxInt}, {1, math.MaxInt, math.MaxInt, 1},
		{math.MaxInt, math.MinInt}, {math.MaxInt, math.MinInt, 2}, {64, math.MinInt, math.MinInt},
		repeat(65, 1), repeat(1000, 1), repeat(33, 2),
	} {
		if got := field.Lay(widths...); len(got) != 0 {
			t.Errorf("Lay(%v) = %v, want none", widths, got)
		}
	}
}

func TestLayKeepsNothing(t *testing.T) {
	widths := []int{3, 24, 15}
	a, b := field.Lay(widths...), field.Lay(widths...)
	a[0] = field.Field{At: 9, Wide: 9}
	if b[0] != (field.Field{At: 0, Wide: 3}) {
		t.Error("two results share memory")
	}
	if !slices.Equal(widths, []int{3, 24, 15}) {
		t.Error("Lay changed its arguments")
	}
}

// P1.2

func TestMay(t *testing.T) {
	for _, f := range valid() {
		if !f.May() {
			t.Errorf("%v: not valid", f)
		}
	}
	for _, f := range wrong {
		if f.May() {
			t.Errorf("%v: valid", f)
		}
	}
}

func TestMost(t *testing.T) {
	for _, c := range []struct {
		f    field.Field
		want uint64
	}{
		{field.Field{At: 4, Wide: 8}, 255},
		{field.Field{At: 0, Wide: 1}, 1},
		{field.Field{At: 63, Wide: 1}, 1},
		{field.Field{At: 0, Wide: 63}, 1<<63 - 1},
		{field.Field{At: 1, Wide: 63}, 1<<63 - 1},
		{field.Field{At: 0, Wide: 64}, math.MaxUint64},
	} {
		if got := c.f.Most(); got != c.want {
			t.Errorf("%v: Most %d, want %d", c.f, got, c.want)
		}
	}
	for _, f := range valid() {
		if got := f.Most(); got != slowMost(f) {
			t.Errorf("%v: Most %d, want %d", f, got, slowMost(f))
		}
	}
}

func TestOf(t *testing.T) {
	if got := (field.Field{At: 4, Wide: 8}).Of(0x1230); got != 0x23 {
		t.Errorf("Of %x", got)
	}
	for _, f := range valid() {
		for _, w := range words {
			if got := f.Of(w); got != slowOf(f, w) {
				t.Errorf("%v: Of(%x) = %x, want %x", f, w, got, slowOf(f, w))
			}
		}
	}
}

func TestPut(t *testing.T) {
	for _, c := range []struct {
		f          field.Field
		w, v, want uint64
		is         bool
	}{
		{field.Field{At: 4, Wide: 8}, 0, 256, 0, false},
		{field.Field{At: 4, Wide: 8}, 0xffff, 256, 0, false},
		{field.Field{At: 4, Wide: 8}, 0, 255, 0xff0, true},
		{field.Field{At: 4, Wide: 8}, 0xffff, 0, 0xf00f, true},
		{field.Field{At: 63, Wide: 1}, 1, 1, 1<<63 | 1, true},
		{field.Field{At: 63, Wide: 1}, 1, 2, 0, false},
		{field.Field{At: 0, Wide: 64}, 0, math.MaxUint64, math.MaxUint64, true},
		{field.Field{At: 0, Wide: 64}, math.MaxUint64, 0, 0, true},
	} {
		if got, is := c.f.Put(c.w, c.v); got != c.want || is != c.is {
			t.Errorf("%v: Put(%x, %x) = %x, %v", c.f, c.w, c.v, got, is)
		}
	}
}

// someValues are values that fit a valid field, its least and its greatest among them.
func someValues(f field.Field) []uint64 {
	most := slowMost(f)
	l := []uint64{0, 1, most, most - 1}
	for _, w := range words {
		l = append(l, w&most)
	}
	return l
}

func TestPutWhatFits(t *testing.T) {
	for _, f := range valid() {
		for _, w := range words {
			for _, v := range someValues(f) {
				got, is := f.Put(w, v)
				if want := slowPut(f, w, v); !is || got != want {
					t.Fatalf("%v: Put(%x, %x) = %x, %v, want %x", f, w, v, got, is, want)
				}
			}
		}
	}
}

func TestPutWhatIsTooGreat(t *testing.T) {
	for _, f := range valid() {
		most := slowMost(f)
		if most == math.MaxUint64 {
			continue
		}
		for _, w := range words {
			for _, v := range []uint64{most + 1, most + 2, 1 << 63, math.MaxUint64} {
				if got, is := f.Put(w, v); is || got != 0 {
					t.Fatalf("%v: Put(%x, %x) = %x, %v", f, w, v, got, is)
				}
			}
		}
	}
}

func TestApart(t *testing.T) {
	l := valid()
	for _, f := range l {
		for _, g := range l {
			want := f.At+f.Wide <= g.At || g.At+g.Wide <= f.At
			if f.Apart(g) != want {
				t.Fatalf("%v.Apart(%v) = %v", f, g, !want)
			}
		}
	}
}

func TestWrongFields(t *testing.T) {
	for _, f := range wrong {
		if f.Most() != 0 {
			t.Errorf("%v: Most %d", f, f.Most())
		}
		for _, w := range words {
			if f.Of(w) != 0 {
				t.Errorf("%v: Of(%x) = %x", f, w, f.Of(w))
			}
			for _, v := range words {
				if got, is := f.Put(w, v); got != 0 || is {
					t.Errorf("%v: Put(%x, %x) = %x, %v", f, w, v, got, is)
				}
			}
		}
	}
}

func TestWrongFieldsAreApartFromNone(t *testing.T) {
	for _, f := range wrong {
		for _, g := range wrong {
			if f.Apart(g) {
				t.Errorf("%v is apart from %v", f, g)
			}
		}
		for _, g := range valid() {
			if f.Apart(g) || g.Apart(f) {
				t.Errorf("%v is apart from %v", f, g)
			}
		}
	}
}

// P1.3

func TestOfIsWhatWasPut(t *testing.T) {
	for _, f := range valid() {
		for _, w := range words {
			for _, v := range someValues(f) {
				if p, is := f.Put(w, v); !is || f.Of(p) != v {
					t.Fatalf("%v: Put(%x, %x) = %x, %v; Of %x", f, w, v, p, is, f.Of(p))
				}
			}
		}
	}
}

func TestPutLeavesWhatIsApart(t *testing.T) {
	l := valid()
	for i, f := range l {
		for _, g := range l {
			if !f.Apart(g) {
				continue
			}
			w := words[i%len(words)]
			for _, v := range []uint64{0, f.Most()} {
				if p, is := f.Put(w, v); !is || g.Of(p) != g.Of(w) {
					t.Fatalf("%v: Put(%x, %x) = %x, %v changes %v", f, w, v, p, is, g)
				}
			}
		}
	}
}

func TestValuesMakeTheWord(t *testing.T) {
	for _, widths := range [][]int{
		{64}, {1, 63}, {63, 1}, {32, 32}, {3, 24, 15, 8, 14}, {1, 2, 3, 4, 5, 6, 7, 8, 9, 10, 9},
		repeat(64, 1), repeat(16, 4), repeat(8, 8),
	} {
		l := field.Lay(widths...)
		if len(l) != len(widths) {
			t.Fatalf("Lay(%v): %d fields", widths, len(l))
		}
		for _, w := range words {
			if got := rebuilt(t, l, w); got != w {
				t.Errorf("%v: %x comes back as %x", widths, w, got)
			}
		}
	}
}

// rebuilt puts the values of the fields of w into another word, which at first differs from it in each bit.
func rebuilt(t *testing.T, l []field.Field, w uint64) uint64 {
	out := ^w
	for _, f := range l {
		p, is := f.Put(out, f.Of(w))
		if !is {
			t.Fatalf("%v: Put(%x, %x) is refused", f, out, f.Of(w))
		}
		out = p
	}
	return out
}
