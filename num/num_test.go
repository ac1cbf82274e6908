package num

import (
	"math"
	"testing"
)

const (
	least = math.MinInt
	most  = math.MaxInt
	half  = 1 << 62
)

// answer is what Add, Sub, Mul and MulDiv tell.
type answer struct {
	n  int
	ok bool
}

func told(n int, ok bool) answer { return answer{n, ok} }

var tooGreat = answer{}

// pairCase is a call with two arguments and its answer.
type pairCase struct {
	a, b int
	want answer
}

func checkPairs(t *testing.T, name string, call func(a, b int) (int, bool), cases []pairCase) {
	t.Helper()
	for _, c := range cases {
		if got := told(call(c.a, c.b)); got != c.want {
			t.Errorf("%s(%d, %d): %v, want %v", name, c.a, c.b, got, c.want)
		}
	}
}

// P1.1
func TestAdd(t *testing.T) {
	checkPairs(t, "Add", Add, []pairCase{
		{0, 0, answer{0, true}},
		{2, 3, answer{5, true}},
		{-2, 3, answer{1, true}},
		{2, -3, answer{-1, true}},
		{most - 1, 1, answer{most, true}},
		{1, most - 1, answer{most, true}},
		{half, half - 1, answer{most, true}},
		{least + 1, -1, answer{least, true}},
		{-1, least + 1, answer{least, true}},
		{-half, -half, answer{least, true}},
		{most, 0, answer{most, true}},
		{0, least, answer{least, true}},
		{most, least, answer{-1, true}},
		{least, most, answer{-1, true}},
		{most, 1, tooGreat},
		{1, most, tooGreat},
		{half, half, tooGreat},
		{most, most, tooGreat},
		{least, -1, tooGreat},
		{-1, least, tooGreat},
		{-half, -half - 1, tooGreat},
		{least, least, tooGreat},
	})
}

// P1.1
func TestSub(t *testing.T) {
	checkPairs(t, "Sub", Sub, []pairCase{
		{0, 0, answer{0, true}},
		{2, 3, answer{-1, true}},
		{-2, 3, answer{-5, true}},
		{2, -3, answer{5, true}},
		{most - 1, -1, answer{most, true}},
		{half, -half + 1, answer{most, true}},
		{-1, least, answer{most, true}},
		{least + 1, 1, answer{least, true}},
		{-half, half, answer{least, true}},
		{-1, most, answer{least, true}},
		{least, 0, answer{least, true}},
		{0, most, answer{least + 1, true}},
		{least, least, answer{0, true}},
		{most, most, answer{0, true}},
		{most, -1, tooGreat},
		{half, -half, tooGreat},
		{0, least, tooGreat},
		{most, least, tooGreat},
		{least, 1, tooGreat},
		{-2, most, tooGreat},
		{-half, half + 1, tooGreat},
		{least, most, tooGreat},
	})
}

// P1.1
func TestMul(t *testing.T) {
	checkPairs(t, "Mul", Mul, []pairCase{
		{0, 0, answer{0, true}},
		{6, 7, answer{42, true}},
		{-6, 7, answer{-42, true}},
		{6, -7, answer{-42, true}},
		{-6, -7, answer{42, true}},
		{0, least, answer{0, true}},
		{most, 0, answer{0, true}},
		{most, 1, answer{most, true}},
		{-1, most, answer{-most, true}},
		{least, 1, answer{least, true}},
		{1, least, answer{least, true}},
		{7, most / 7, answer{most, true}},
		{-7, most / 7, answer{-most, true}},
		{half, -2, answer{least, true}},
		{-2, half, answer{least, true}},
		{1 << 31, -1 << 32, answer{least, true}},
		{half - 1, 2, answer{most - 1, true}},
		{half, 2, tooGreat},
		{-half, -2, tooGreat},
		{least, -1, tooGreat},
		{-1, least, tooGreat},
		{1 << 31, 1 << 32, tooGreat},
		{7, most/7 + 1, tooGreat},
		{half + 1, -2, tooGreat},
		{1 << 32, 1 << 32, tooGreat},
		{1 << 33, 1 << 33, tooGreat},
		{most, most, tooGreat},
		{least, least, tooGreat},
		{least, most, tooGreat},
	})
}

// P1.1
func TestDiv(t *testing.T) {
	for _, c := range []struct {
		a, b, q, r int
		ok         bool
	}{
		{7, 2, 3, 1, true},
		{-7, 2, -4, 1, true},
		{7, -2, -4, -1, true},
		{-7, -2, 3, -1, true},
		{6, 3, 2, 0, true},
		{-6, 3, -2, 0, true},
		{6, -3, -2, 0, true},
		{-6, -3, 2, 0, true},
		{0, 5, 0, 0, true},
		{0, -5, 0, 0, true},
		{1, 5, 0, 1, true},
		{-1, 5, -1, 4, true},
		{1, -5, -1, -4, true},
		{-1, -5, 0, -1, true},
		{most, 1, most, 0, true},
		{most, -1, -most, 0, true},
		{least, 1, least, 0, true},
		{least + 1, -1, most, 0, true},
		{least, 2, -half, 0, true},
		{least, -2, half, 0, true},
		{most, 2, half - 1, 1, true},
		{most, -2, -half, -1, true},
		{1, most, 0, 1, true},
		{-1, most, -1, most - 1, true},
		{1, least, -1, least + 1, true},
		{-1, least, 0, -1, true},
		{most, least, -1, -1, true},
		{least, most, -2, most - 1, true},
		{least, least, 1, 0, true},
		{least, -1, 0, 0, false},
		{0, 0, 0, 0, false},
		{7, 0, 0, 0, false},
		{most, 0, 0, 0, false},
		{least, 0, 0, 0, false},
	} {
		q, r, ok := Div(c.a, c.b)
		if q != c.q || r != c.r || ok != c.ok {
			t.Errorf("Div(%d, %d): %d, %d, %v, want %d, %d, %v", c.a, c.b, q, r, ok, c.q, c.r, c.ok)
		}
	}
}

// P1.1
func TestMulDiv(t *testing.T) {
	for _, c := range []struct {
		a, b, c int
		want    answer
	}{
		{6, 7, 4, answer{10, true}},
		{-6, 7, 4, answer{-11, true}},
		{6, -7, 4, answer{-11, true}},
		{-6, -7, 4, answer{10, true}},
		{-6, 6, 4, answer{-9, true}},
		{0, least, 3, answer{0, true}},
		{1, -1, most, answer{-1, true}},
		{1, 1, most, answer{0, true}},
		// Products far past one word.
		{most, most, most, answer{most, true}},
		{least, most, most, answer{least, true}},
		{least, least, most, tooGreat},
		{most, most - 1, most, answer{most - 1, true}},
		{1 << 40, 1 << 50, 1 << 45, answer{1 << 45, true}},
		{-1 << 40, 1<<50 + 1, 1 << 45, answer{-1<<45 - 1, true}},
		// Answers just at the ends, and just past them.
		// (The chapter's example calls the first one too great; P1.1 holds: it is
		// 3 * 2^61, below 2^63.)
		{half, 6, 4, answer{3 << 61, true}},
		{half, 6, 3, tooGreat},
		{half, 6, 2, tooGreat},
		{half, 2, 1, tooGreat},
		{half, 4, 2, tooGreat},
		{1 << 32, 1 << 32, 2, tooGreat},
		{half, -4, 2, answer{least, true}},
		{1 << 32, -1 << 32, 2, answer{least, true}},
		{most, 3, 3, answer{most, true}},
		{3037000500, 3037000500, 1, tooGreat},
		{least, 3, 3, answer{least, true}},
		{1 << 33, -(1<<32 + 1), 4, tooGreat},
		{least, 4, 3, tooGreat},
		{most, 4, 3, tooGreat},
		{least, least, 1, tooGreat},
		{least, most, 1, tooGreat},
		{least, -1, 1, tooGreat},
		// The product's rest decides: -2^64 - 1 parted by 2 is below -2^63.
		{274177, -67280421310721, 2, tooGreat},
		{274177, 67280421310721, 2, tooGreat},
		// 2^64 - 1 parted by 2 is 2^63 - 1 and a rest.
		{6700417, 2753074036095, 2, answer{most, true}},
		{6700417, -2753074036095, 2, answer{least, true}},
		// c below 1.
		{6, 7, 0, tooGreat},
		{6, 7, -1, tooGreat},
		{0, 0, 0, tooGreat},
		{0, 0, -4, tooGreat},
		{most, most, least, tooGreat},
		{least, least, least, tooGreat},
	} {
		if got := told(MulDiv(c.a, c.b, c.c)); got != c.want {
			t.Errorf("MulDiv(%d, %d, %d): %v, want %v", c.a, c.b, c.c, got, c.want)
		}
	}
}

// P1.2
func TestCross(t *testing.T) {
	for _, c := range []struct {
		a, b, c, d, want int
	}{
		{1, 3, 2, 6, 0},
		{1, 3, 2, 5, -1},
		{1, 2, 1, 3, 1},
		{-1, 2, 1, 2, -1},
		{1, 2, -1, 2, 1},
		{-1, 2, -1, 3, -1},
		{0, 0, 0, 0, 0},
		{0, 5, 0, -7, 0},
		// Signs of b and d are not turned: only the products count.
		{1, -2, 1, 2, 1},
		{1, 2, 1, -2, -1},
		// Products past one word, of either sign.
		{most, most, most, most, 0},
		{most, most, most - 1, most, 1},
		{most - 1, most, most, most, -1},
		{most, most - 1, most - 1, most - 2, -1},
		{least, least, least, least, 0},
		{least, 1, least, 1, 0},
		{least, most, most, least, 1},
		{most, most, least, least, 0},
		{most, least, least, most, -1},
		{least, 1, -1, least, 1},
		{least, -1, 1, least, 1},
		{least, 1, most, least, 1},
		{least, -1, most, most, -1},
		// The high words are alike, the low ones decide.
		{1 << 40, 1 << 40, 1<<40 + 1, 1<<40 + 1, 0},
		{1<<40 + 1, 1 << 40, 1 << 40, 1 << 40, 1},
		{-1<<40 - 1, 1 << 40, -1 << 40, 1 << 40, -1},
		// 2^64 against numbers of one word: the low words alone would mislead.
		{1 << 32, 1, 1, 1 << 32, 1},
		{1 << 32, 1<<32 - 1, 1 << 32, 1 << 32, 1},
		{-1 << 32, 1, -1, 1 << 32, -1},
		// A low word with its top bit set is not below 0.
		{half, 1, 1, 2, 1},
		{1, half, 2, 1, -1},
	} {
		if got := Cross(c.a, c.b, c.c, c.d); got != c.want {
			t.Errorf("Cross(%d, %d, %d, %d): %d, want %d", c.a, c.b, c.c, c.d, got, c.want)
		}
	}
}

// P1.2
func TestGcd(t *testing.T) {
	for _, c := range []struct {
		a, b, want int
	}{
		{12, 18, 6},
		{18, 12, 6},
		{-12, 18, 6},
		{12, -18, 6},
		{-12, -18, 6},
		{7, 11, 1},
		{0, 0, 0},
		{0, 5, 5},
		{5, 0, 5},
		{0, -5, 5},
		{-5, 0, 5},
		{1, most, 1},
		{most, most, most},
		{most, most - 1, 1},
		{-most, 0, most},
		{0, least, most},
		{least, 0, most},
		{least, least, most},
		{least, most, most},
		{-most, least, most},
		// 2^63 would have 2 in it; 2^63 - 1 has 7.
		{least, 2, 1},
		{2, least, 1},
		{least, 7, 7},
		{-14, least, 7},
		{least + 1, 7, 7},
		{least + 2, 2, 2},
		// Two neighbours of Fibonacci's, for which Euclid's way is longest.
		{7540113804746346429, 4660046610375530309, 1},
	} {
		if got := Gcd(c.a, c.b); got != c.want {
			t.Errorf("Gcd(%d, %d): %d, want %d", c.a, c.b, got, c.want)
		}
	}
}

// P1.2
func TestClamp(t *testing.T) {
	for _, c := range []struct {
		x, least, most, want int
	}{
		{5, 1, 9, 5},
		{1, 1, 9, 1},
		{9, 1, 9, 9},
		{0, 1, 9, 1},
		{10, 1, 9, 9},
		{4, 4, 4, 4},
		{3, 4, 4, 4},
		{5, 4, 4, 4},
		{least, least, most, least},
		{most, least, most, most},
		{least, -3, 3, -3},
		{most, -3, 3, 3},
		// least above most.
		{5, 9, 1, 9},
		{0, 9, 1, 9},
		{10, 9, 1, 9},
		{0, most, least, most},
		{least, most, least, most},
		{most, most, least, most},
	} {
		if got := Clamp(c.x, c.least, c.most); got != c.want {
			t.Errorf("Clamp(%d, %d, %d): %d, want %d", c.x, c.least, c.most, got, c.want)
		}
	}
}

// P1.3
func TestNear(t *testing.T) {
	for _, c := range []struct {
		a, b, c, d, e, f int
		want             bool
	}{
		{1, 2, 1, 3, 1, 1, true},
		{1, 3, 1, 2, 1, 1, true},
		{1, 2, 1, 4, 1, 1, false},
		{1, 4, 1, 2, 1, 1, false},
		{1, 4, 1, 2, 2, 1, true},
		{1, 4, 1, 2, 1, 2, true},
		{3, 4, 3, 4, 0, 0, true},
		{3, 4, 3, 5, 0, 7, false},
		{0, 0, 0, 0, 0, 0, true},
		// No distance is below 0; two signs are none.
		{3, 4, 3, 4, -1, 1, false},
		{3, 4, 3, 4, 1, -1, false},
		{3, 4, 3, 4, -1, -1, true},
		{0, 0, 0, 0, least, most, false},
		{0, 0, 0, 0, least, least, true},
		// Products past one word, of either sign, just at and just past.
		{most, 0, 0, most, most, most, true},
		{most, -1, 1, most, most, most, false},
		{most, 1, 1, most, most, most, true},
		{0, most, most, 0, most, most, true},
		{-1, most, most, 1, most, most, false},
		{least, 0, 0, least, least, least, true},
		{least, 1, -1, least, least, least, false},
		{least, 0, 0, least, least, -most, false},
		{least, 0, 0, most, least, -most, true},
		{least, 1, 1, most, least, -most, false},
		{most, most, most, most, 0, 0, true},
		{least, most, most, least, 0, 0, false},
		// Two products far apart: the difference is past 2^126.
		{least, most, least, least, least, least, false},
		{least, least, most, least, 0, 0, false},
		{least, least, least, most, least, least, false},
		{half, -half, half, half, most, most, true},
		{half, half, half, -half, most, most, true},
		{half, half, half, -half, half, 2, false},
		{half, half, half, -half, half, least, false},
		{half, half, half, -half, -half, least, true},
		{half, half, half, -half, 1 - half, least, false},
		{half, -half, half, half, -half, least, true},
		{half, -half, half, half, 1 - half, least, false},
	} {
		if got := Near(c.a, c.b, c.c, c.d, c.e, c.f); got != c.want {
			t.Errorf("Near(%d, %d, %d, %d, %d, %d): %v, want %v", c.a, c.b, c.c, c.d, c.e, c.f, got, c.want)
		}
	}
}
