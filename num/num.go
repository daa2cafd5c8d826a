// Package num is layer 1 (bounded integers, rounded quotients, quantiles): see shared/doc/01-num.md.
package num

import (
	"math/bits"
	"slices"
	"strconv"

	"tracebook/api"
)

// In reports whether n is from -MaxInt to MaxInt.
func In(n int) bool { return -api.MaxInt <= n && n <= api.MaxInt }

// bounded returns n and true if n is in range.
func bounded(n int) (int, bool) {
	if !In(n) {
		return 0, false
	}
	return n, true
}

// Add returns a + b.
func Add(a, b int) (int, bool) {
	if !In(a) || !In(b) {
		return 0, false
	}
	return bounded(a + b)
}

// Mul returns a times b.
func Mul(a, b int) (int, bool) { return Floor(a, b, 1) }

// abs returns the absolute value of a number in range.
func abs(n int) uint64 {
	if n < 0 {
		n = -n
	}
	return uint64(n)
}

// Floor returns a times b divided by c, rounded down.
func Floor(a, b, c int) (int, bool) {
	if !In(a) || !In(b) || c < 1 || c > api.MaxInt {
		return 0, false
	}
	hi, lo := bits.Mul64(abs(a), abs(b))
	if hi >= uint64(c) {
		return 0, false // the quotient has more than 64 bits
	}
	q, r := bits.Div64(hi, lo, uint64(c))
	if q > api.MaxInt {
		return 0, false
	}
	n := int(q)
	if (a < 0) != (b < 0) {
		n = -n
		if r > 0 {
			n--
		}
	}
	return bounded(n)
}

// Ceil returns a times b divided by c, rounded up.
func Ceil(a, b, c int) (int, bool) {
	if !In(a) {
		return 0, false
	}
	n, ok := Floor(-a, b, c)
	return -n, ok
}

// Quantile returns the least element such that at least k/n of all elements are not greater.
func Quantile(l []int, k, n int) (int, bool) {
	if len(l) == 0 || n < 1 || n > api.MaxInt || k < 0 || k > n {
		return 0, false
	}
	sorted := slices.Clone(l)
	slices.Sort(sorted)
	// The quotient is at most len(l), because k is at most n: Div64 does not panic.
	hi, lo := bits.Mul64(uint64(k), uint64(len(l)))
	count, rest := bits.Div64(hi, lo, uint64(n))
	if rest > 0 {
		count++
	}
	return sorted[max(count, 1)-1], true
}

// Text returns n in decimal.
func Text(n int) string { return strconv.Itoa(n) }

// Parse returns the number with a text.
func Parse(s string) (int, bool) {
	n, err := strconv.Atoi(s)
	if err != nil || !In(n) || Text(n) != s {
		return 0, false
	}
	return n, true
}
