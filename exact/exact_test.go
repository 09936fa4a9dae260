package exact_test

import (
	"math"
	"math/big"
	"testing"

	"quantale/exact"
)

// edges are numbers at which words and signs change.
func edges() []int64 {
	l := []int64{0, math.MaxInt64, math.MinInt64, math.MaxInt64 - 1, math.MinInt64 + 1}
	for k := range 63 {
		l = append(l, 1<<k, -1<<k, 1<<k-1, -1<<k-1)
	}
	return l
}

// expect compares a number with one that is right.
func expect(t *testing.T, got exact.Int, want *big.Int) {
	t.Helper()
	for _, most := range []int64{0, 1, 1 << 53, 1 << 62, math.MaxInt64} {
		n, ok := got.Within(most)
		if small := new(big.Int).Abs(want).Cmp(big.NewInt(most)) <= 0; ok != small || ok && n != want.Int64() {
			t.Fatalf("%v is %d, %v within %d, not %v", got, n, ok, most, want)
		}
	}
}

func TestProducts(t *testing.T) {
	for _, a := range edges() {
		for _, b := range edges() {
			p := new(big.Int).Mul(big.NewInt(a), big.NewInt(b))
			expect(t, exact.Product(a, b), p)
			// What is left of a product shows its upper words.
			expect(t, exact.Product(a, b).Plus(exact.Product(-1<<31, b)).Plus(exact.Product(a, -1<<40)),
				p.Sub(p, new(big.Int).Lsh(big.NewInt(b), 31)).Sub(p, new(big.Int).Lsh(big.NewInt(a), 40)))
		}
	}
}

func TestManyDoNotOverflow(t *testing.T) {
	sum, less := exact.Int{}, exact.Int{}
	p, q := exact.Product(math.MinInt64, math.MinInt64), exact.Product(math.MinInt64, math.MaxInt64)
	for range 100000 {
		sum = sum.Plus(p)
		less = less.Plus(q)
	}
	if _, ok := sum.Within(math.MaxInt64); ok {
		t.Error("a sum of 2^142 is small")
	}
	// -2^63 * (2^63 - 1) is 2^63 more than -2^126.
	n, ok := sum.Plus(less).Plus(exact.Product(math.MinInt64, 99999)).Plus(exact.Product(math.MinInt64, 1)).Within(math.MaxInt64)
	if !ok || n != 0 {
		t.Errorf("the difference is %d, %v", n, ok)
	}
}
