// Package field is layer 1: see shared/doc/01-field.md.
package field

import "iter"

const wordBits = 64

// Field is Wide bits of a word, from the bit At on.
type Field struct{ At, Wide int }

// Lay returns fields with these widths, one behind the other, or none if they are not all valid.
func Lay(widths ...int) []Field {
	var fields []Field
	for f := range inRow(widths...) {
		if !f.May() {
			return nil
		}
		fields = append(fields, f)
	}
	return fields
}

// inRow yields a field for each width, each one at the bit behind the one before. What comes behind one that is not valid means nothing, as the place may have overflowed.
func inRow(widths ...int) iter.Seq[Field] {
	return func(yield func(Field) bool) {
		at := 0
		for _, wide := range widths {
			f := Field{at, wide}
			if !yield(f) {
				return
			}
			at += wide
		}
	}
}

// May reports whether the field is valid.
func (f Field) May() bool {
	// The sum of At and Wide may overflow; this difference can't.
	return f.At >= 0 && f.Wide >= 1 && f.Wide <= wordBits-f.At
}

// Most returns the greatest value of the field.
func (f Field) Most() uint64 {
	if !f.May() {
		return 0
	}
	return f.mask() >> f.At
}

// Of returns the value of the field of w.
func (f Field) Of(w uint64) uint64 {
	if !f.May() {
		return 0
	}
	return inside(w, f.mask) >> f.At
}

// Put returns w with the value v in the field, or false if v does not fit.
func (f Field) Put(w, v uint64) (uint64, bool) {
	if !f.May() || v > f.Most() {
		return 0, false
	}
	return outside(w, f.mask) | v<<f.At, true
}

// Apart reports whether both fields are valid, and have no bit in common.
func (f Field) Apart(g Field) bool {
	return f.May() && g.May() && inside(f.mask(), g.mask) == 0
}

// mask is the word in which exactly the field's bits are 1. The field is valid: for others the shifts could panic.
func (f Field) mask() uint64 {
	return ^uint64(0) >> (wordBits - f.Wide) << f.At
}

// inside keeps the bits of w that are in the mask.
func inside(w uint64, mask func() uint64) uint64 { return w & mask() }

// outside keeps the bits of w that are not in the mask.
func outside(w uint64, mask func() uint64) uint64 { return w &^ mask() }
