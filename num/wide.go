package num

import "math/bits"

// wide is a whole number of two words, from -2^127 to 2^127 - 1. It holds any
// product of two ints (at most 2^126 from 0), and any difference of two such
// products too: that is at most 2^127 - 2^63 from 0, as no product is -2^126.
// So nothing that this package reckons in it wraps.
type wide struct {
	high int64
	low  uint64
}

// widen tells the same number in two words.
func widen(a int) wide {
	if a < 0 {
		return wide{-1, uint64(a)}
	}
	return wide{0, uint64(a)}
}

// times tells the product, which two words hold, whatever a and b are.
func times(a, b int) wide {
	high, low := bits.Mul64(size(a), size(b))
	turn := turner((a < 0) != (b < 0))
	return turn(wide{int64(high), low})
}

// size tells a without its sign: of -2^63 too, which -a can't.
func size(a int) uint64 {
	if a < 0 {
		return uint64(-(a + 1)) + 1
	}
	return uint64(a)
}

// turner tells a function that turns a number's sign, or leaves it: so that
// who reckons without signs asks once, and turns to and fro by the same hand.
func turner(below bool) func(wide) wide {
	return func(w wide) wide {
		if below {
			return wide{}.minus(w)
		}
		return w
	}
}

func (w wide) below() bool {
	return w.high < 0
}

func (w wide) plus(v wide) wide {
	low, carry := bits.Add64(w.low, v.low, 0)
	high, _ := bits.Add64(uint64(w.high), uint64(v.high), carry)
	return wide{int64(high), low}
}

func (w wide) minus(v wide) wide {
	low, borrow := bits.Sub64(w.low, v.low, 0)
	high, _ := bits.Sub64(uint64(w.high), uint64(v.high), borrow)
	return wide{int64(high), low}
}

// over tells w, not below 0, parted by c, above 0, and rounded down; false: the
// answer is 2^64 or more, past any int, with either sign.
func (w wide) over(c int) (wide, bool) {
	// Div64 panics unless the high word is below what it parts by.
	if w.high >= int64(c) {
		return wide{}, false
	}
	quotient, _ := bits.Div64(uint64(w.high), w.low, uint64(c))
	return wide{0, quotient}, true
}

// compare tells -1, 0 or 1, as w is below, at, or above v.
func (w wide) compare(v wide) int {
	switch {
	case w == v:
		return 0
	case w.high < v.high || w.high == v.high && w.low < v.low:
		return -1
	}
	return 1
}

// whole tells w as an int: it is one if its low word says all of it.
func (w wide) whole() (int, bool) {
	a := int(w.low)
	if w != widen(a) {
		return 0, false
	}
	return a, true
}
