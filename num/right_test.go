package num

import (
	"math/big"
	"math/rand"
	"testing"
)

// The tests of this file hold every call against numbers of any length (P1.4),
// over all tuples of the ends of what there is, and over many drawn ones; a
// call that panicked there would fail them too (P1).

// edges are the numbers at which words end, and their neighbours.
func edges() []int {
	l := []int{0, 3, 7, -3, -7}
	for _, n := range []int{1, 1 << 31, 1 << 32, half} {
		for _, d := range []int{-1, 0, 1} {
			l = append(l, n+d, -n+d)
		}
	}
	return append(l, most, most-1, most-2, least, least+1, least+2)
}

// fewEdges are so few that all tuples of six can be gone through.
func fewEdges() []int {
	return []int{0, 1, -1, half, -half, most, least}
}

// drawn are tuples of numbers of all lengths, the same ones each time.
func drawn(width, count int) [][]int {
	source := rand.New(rand.NewSource(1))
	l := make([][]int, count)
	for i := range l {
		for range width {
			n := int(source.Uint64()) >> source.Intn(64)
			l[i] = append(l[i], n)
		}
	}
	return l
}

// tuples are all those of so many of the numbers.
func tuples(numbers []int, width int) [][]int {
	l := [][]int{nil}
	for range width {
		var longer [][]int
		for _, t := range l {
			for _, n := range numbers {
				longer = append(longer, append(t[:len(t):len(t)], n))
			}
		}
		l = longer
	}
	return l
}

func great(n int) *big.Int { return big.NewInt(int64(n)) }

func product(a, b int) *big.Int { return new(big.Int).Mul(great(a), great(b)) }

// inWord is the number, if an int can be it.
func inWord(n *big.Int) answer {
	if !n.IsInt64() {
		return tooGreat
	}
	return answer{int(n.Int64()), true}
}

// floor is a / b, rounded down, and the rest.
func floor(a, b *big.Int) (*big.Int, *big.Int) {
	q, r := new(big.Int).QuoRem(a, b, new(big.Int))
	if r.Sign() != 0 && r.Sign() != b.Sign() {
		q.Sub(q, big.NewInt(1))
		r.Add(r, b)
	}
	return q, r
}

func TestRightSums(t *testing.T) {
	for _, x := range append(tuples(edges(), 2), drawn(2, 5000)...) {
		a, b := x[0], x[1]
		if got, want := told(Add(a, b)), inWord(new(big.Int).Add(great(a), great(b))); got != want {
			t.Fatalf("Add(%d, %d): %v, want %v", a, b, got, want)
		}
		if got, want := told(Sub(a, b)), inWord(new(big.Int).Sub(great(a), great(b))); got != want {
			t.Fatalf("Sub(%d, %d): %v, want %v", a, b, got, want)
		}
		if got, want := told(Mul(a, b)), inWord(product(a, b)); got != want {
			t.Fatalf("Mul(%d, %d): %v, want %v", a, b, got, want)
		}
	}
}

func TestRightDiv(t *testing.T) {
	for _, x := range append(tuples(edges(), 2), drawn(2, 5000)...) {
		a, b := x[0], x[1]
		var quotient, rest answer
		if b != 0 {
			q, r := floor(great(a), great(b))
			if quotient = inWord(q); quotient.ok {
				rest = inWord(r)
			}
		}
		q, r, ok := Div(a, b)
		if q != quotient.n || r != rest.n || ok != quotient.ok {
			t.Fatalf("Div(%d, %d): %d, %d, %v, want %v, %v", a, b, q, r, ok, quotient, rest)
		}
	}
}

func TestRightMulDiv(t *testing.T) {
	for _, x := range append(tuples(edges(), 3), drawn(3, 20000)...) {
		a, b, c := x[0], x[1], x[2]
		want := tooGreat
		if c >= 1 {
			q, _ := floor(product(a, b), great(c))
			want = inWord(q)
		}
		if got := told(MulDiv(a, b, c)); got != want {
			t.Fatalf("MulDiv(%d, %d, %d): %v, want %v", a, b, c, got, want)
		}
	}
}

func TestRightCross(t *testing.T) {
	for _, x := range append(tuples(fewEdges(), 4), drawn(4, 20000)...) {
		a, b, c, d := x[0], x[1], x[2], x[3]
		if got, want := Cross(a, b, c, d), product(a, d).Cmp(product(c, b)); got != want {
			t.Fatalf("Cross(%d, %d, %d, %d): %d, want %d", a, b, c, d, got, want)
		}
	}
}

func TestRightNear(t *testing.T) {
	for _, x := range append(tuples(fewEdges(), 6), drawn(6, 20000)...) {
		a, b, c, d, e, f := x[0], x[1], x[2], x[3], x[4], x[5]
		distance := new(big.Int).Sub(product(a, d), product(c, b))
		want := distance.Abs(distance).Cmp(product(e, f)) <= 0
		if got := Near(a, b, c, d, e, f); got != want {
			t.Fatalf("Near(%d, %d, %d, %d, %d, %d): %v, want %v", a, b, c, d, e, f, got, want)
		}
	}
}

func TestRightGcd(t *testing.T) {
	bare := func(n int) *big.Int {
		if n == least {
			n++
		}
		return new(big.Int).Abs(great(n))
	}
	for _, x := range append(tuples(edges(), 2), drawn(2, 5000)...) {
		a, b := x[0], x[1]
		want := int(new(big.Int).GCD(nil, nil, bare(a), bare(b)).Int64())
		if got := Gcd(a, b); got != want {
			t.Fatalf("Gcd(%d, %d): %d, want %d", a, b, got, want)
		}
	}
}

func TestRightClamp(t *testing.T) {
	for _, x := range append(tuples(edges(), 3), drawn(3, 5000)...) {
		n, from, to := x[0], x[1], x[2]
		want := n
		switch {
		case from > to || n < from:
			want = from
		case n > to:
			want = to
		}
		if got := Clamp(n, from, to); got != want {
			t.Fatalf("Clamp(%d, %d, %d): %d, want %d", n, from, to, got, want)
		}
	}
}
