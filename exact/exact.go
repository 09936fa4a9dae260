// Package exact has integers that do not overflow where sums of products are made, for the layers that calculate with them.
package exact

import "math/bits"

// Int is an integer of 192 bits in two's complement, its lowest word first. A sum of 2^31 products of two int64 does not overflow it.
type Int [3]uint64

// Product returns a*b.
func Product(a, b int64) Int {
	high, low := bits.Mul64(uint64(a), uint64(b))
	// As a word, a negative factor is 2^64 more than it is.
	if a < 0 {
		high -= uint64(b)
	}
	if b < 0 {
		high -= uint64(a)
	}
	return Int{low, high, uint64(int64(high) >> 63)}
}

// Plus returns x + y.
func (x Int) Plus(y Int) Int {
	var z Int
	var carry uint64
	for i := range z {
		z[i], carry = bits.Add64(x[i], y[i], carry)
	}
	return z
}

// Within returns an integer as an int64, and false if its amount is greater than most.
func (x Int) Within(most int64) (int64, bool) {
	n := int64(x[0])
	sign := uint64(n >> 63)
	return n, x[1] == sign && x[2] == sign && -most <= n && n <= most
}
