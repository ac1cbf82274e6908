// Package num is layer 1: whole numbers that may be too great. See
// shared/doc/01-num.md.
package num

import "math"

// Add tells the sum; 0, false: one word does not hold it.
func Add(a, b int) (int, bool) {
	if b > 0 && a > math.MaxInt-b || b < 0 && a < math.MinInt-b {
		return 0, false
	}
	return a + b, true
}

// Sub tells the difference; 0, false: one word does not hold it.
func Sub(a, b int) (int, bool) {
	if b > 0 && a < math.MinInt+b || b < 0 && a > math.MaxInt+b {
		return 0, false
	}
	return a - b, true
}

// Mul tells the product; 0, false: one word does not hold it.
func Mul(a, b int) (int, bool) {
	return times(a, b).whole()
}

// Div tells a / b, rounded down, and the rest, which has b's sign or is 0;
// 0, 0, false: b is 0, or one word does not hold the number.
func Div(a, b int) (int, int, bool) {
	if b == 0 || a == math.MinInt && b == -1 {
		return 0, 0, false
	}
	q, r := a/b, a%b
	// Go rounds towards 0: a rest whose sign is not b's shows that this was up.
	if r != 0 && (r < 0) != (b < 0) {
		q, r = q-1, r+b
	}
	return q, r, true
}

// MulDiv tells a times b, parted by c and rounded down; 0, false: c is below 1,
// or one word does not hold the answer.
func MulDiv(a, b, c int) (int, bool) {
	if c < 1 {
		return 0, false
	}
	product := times(a, b)
	turn := turner(product.below())
	dividend := turn(product)
	if product.below() {
		// Rounded up without its sign, the answer is rounded down with it.
		dividend = dividend.plus(widen(c - 1))
	}
	quotient, ok := dividend.over(c)
	if !ok {
		return 0, false
	}
	return turn(quotient).whole()
}

// Cross tells -1, 0 or 1, as a times d is below, at, or above c times b.
func Cross(a, b, c, d int) int {
	return times(a, d).compare(times(c, b))
}

// Gcd tells the greatest number that divides both, whatever their signs; 0 of
// 0 and 0.
func Gcd(a, b int) int {
	a, b = unsigned(a), unsigned(b)
	for b != 0 {
		a, b = b, a%b
	}
	return a
}

// unsigned lets -2^63 count as -(2^63 - 1), since an int has no 2^63.
func unsigned(a int) int {
	switch {
	case a == math.MinInt:
		return math.MaxInt
	case a < 0:
		return -a
	}
	return a
}

// Clamp tells x, but not below least, and not above most; least, if that is
// above most.
func Clamp(x, least, most int) int {
	return max(least, min(x, most))
}

// Near tells whether a times d and c times b are at most e times f apart.
func Near(a, b, c, d, e, f int) bool {
	difference := times(a, d).minus(times(c, b))
	turn := turner(difference.below())
	return turn(difference).compare(times(e, f)) <= 0
}
