package frac

import "math/bits"

// wide is an integer of 128 bits in two's complement: numerators over a common denominator exceed 64 bits.
type wide struct{ hi, lo uint64 }

// times returns the product of any a and a b that is not negative.
func times(a, b int) wide {
	hi, lo := bits.Mul64(size(a), uint64(b))
	w := wide{hi, lo}
	if a < 0 {
		return wide{}.minus(w)
	}
	return w
}

func (w wide) plus(v wide) wide {
	lo, carry := bits.Add64(w.lo, v.lo, 0)
	hi, _ := bits.Add64(w.hi, v.hi, carry)
	return wide{hi, lo}
}

func (w wide) minus(v wide) wide {
	lo, borrow := bits.Sub64(w.lo, v.lo, 0)
	hi, _ := bits.Sub64(w.hi, v.hi, borrow)
	return wide{hi, lo}
}

// sign returns -1, 0 or 1.
func (w wide) sign() int {
	if w.hi>>63 == 1 {
		return -1
	}
	if w == (wide{}) {
		return 0
	}
	return 1
}

// mod returns the remainder of a w that is not negative.
func (w wide) mod(d uint64) uint64 { return bits.Rem64(w.hi, w.lo, d) }

// div returns the quotient of a w that is not negative, if it has at most 64 bits.
func (w wide) div(d uint64) (uint64, bool) {
	if w.hi >= d {
		return 0, false
	}
	q, _ := bits.Div64(w.hi, w.lo, d)
	return q, true
}

// product returns a times b, if it has at most 64 bits.
func product(a, b uint64) (uint64, bool) {
	hi, lo := bits.Mul64(a, b)
	return lo, hi == 0
}
