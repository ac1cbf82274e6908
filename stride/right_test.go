package stride

import (
	"math/big"
	"math/rand"
	"slices"
	"testing"
)

// The tests of this file hold every call against the chapter's words, done plainly in
// whole numbers of any length, over drawn arguments, the same ones each time. A call
// that panicked there would fail them too (P1).

func great(n int) *big.Int { return big.NewInt(int64(n)) }

func plus(a, b *big.Int) *big.Int { return new(big.Int).Add(a, b) }

func minus(a, b *big.Int) *big.Int { return new(big.Int).Sub(a, b) }

func times(a, b *big.Int) *big.Int { return new(big.Int).Mul(a, b) }

// parted is a / b of numbers not below 0, rounded down, and the rest.
func parted(a, b *big.Int) (*big.Int, *big.Int) {
	return new(big.Int).QuoRem(a, b, new(big.Int))
}

// plainOne is 2^40.
func plainOne() *big.Int { return new(big.Int).Lsh(great(1), 40) }

// mayHave tells whether a thread may have so many tickets.
func mayHave(tickets int) bool { return tickets > 0 && tickets < 65537 }

// canAsk tells whether Bound and Ideal tell something of i.
func canAsk(tickets []int, i int) bool {
	for _, n := range tickets {
		if !mayHave(n) {
			return false
		}
	}
	return len(tickets) < 33 && i > -1 && i < len(tickets)
}

func plainStride(tickets int) *big.Int {
	if !mayHave(tickets) {
		return great(0)
	}
	stride, _ := parted(plainOne(), great(tickets))
	return stride
}

// plainEnter is Clamp's words: the least one counts where it is above the most.
func plainEnter(pass, now, stride int) int {
	most := plus(great(now), great(stride))
	if most.Cmp(great(highest)) > 0 {
		most = great(highest)
	}
	if most.Cmp(great(lowest)) < 0 {
		most = great(lowest)
	}
	entered := great(pass)
	if entered.Cmp(most) > 0 {
		entered = most
	}
	if entered.Cmp(great(now)) < 0 {
		entered = great(now)
	}
	return int(entered.Int64())
}

func plainCharge(pass, stride int) pair {
	sum := plus(great(pass), great(stride))
	if !sum.IsInt64() {
		return pair{}
	}
	return pair{int(sum.Int64()), 1}
}

func plainWithin(n1, t1, n2, t2, k int) bool {
	if !mayHave(t1) || !mayHave(t2) || k < 0 || k > 64 {
		return false
	}
	difference := minus(times(great(n1), great(t2)), times(great(n2), great(t1)))
	borne := times(plus(great(k), great(1)), plus(great(t1), great(t2)))
	return difference.CmpAbs(borne) <= 0
}

func plainBound(tickets []int, i int) int {
	bound := great(0)
	if canAsk(tickets, i) {
		for _, n := range tickets {
			often, _ := parted(plainStride(tickets[i]), plainStride(n))
			bound = plus(bound, plus(often, great(2)))
		}
	}
	return int(bound.Int64())
}

func plainIdeal(tickets []int, i, quanta int) pair {
	if !canAsk(tickets, i) || quanta < 0 {
		return pair{}
	}
	all := great(0)
	for _, n := range tickets {
		all = plus(all, great(n))
	}
	share, rest := parted(times(great(quanta), great(tickets[i])), all)
	return pair{int(share.Int64()), int(rest.Int64())}
}

// drawnInt is of any size and sign, and at times at int's ends.
func drawnInt(r *rand.Rand) int {
	switch r.Intn(20) {
	case 0:
		return lowest + r.Intn(3)
	case 1:
		return highest - r.Intn(3)
	}
	return int(r.Uint64()) >> r.Intn(64)
}

// drawnTickets are some that a thread may have, of any size.
func drawnTickets(r *rand.Rand) int {
	return 1 + r.Intn(1<<r.Intn(17))
}

// drawnAnyTickets are mostly some that a thread may have.
func drawnAnyTickets(r *rand.Rand) int {
	switch r.Intn(16) {
	case 0:
		return r.Intn(3) - 1
	case 1:
		return rich - 1 + r.Intn(3)
	case 2:
		return drawnInt(r)
	}
	return drawnTickets(r)
}

// drawnThreads are the tickets of at least one thread, and not of too many.
func drawnThreads(r *rand.Rand) []int {
	tickets := make([]int, 1+r.Intn(many))
	for i := range tickets {
		tickets[i] = drawnTickets(r)
	}
	return tickets
}

// drawnList is at times one of which nothing can be told.
func drawnList(r *rand.Rand) []int {
	tickets := make([]int, r.Intn(many+3))
	for i := range tickets {
		tickets[i] = drawnTickets(r)
	}
	if r.Intn(3) == 0 && len(tickets) > 0 {
		tickets[r.Intn(len(tickets))] = drawnAnyTickets(r)
	}
	return tickets
}

// drawnPlace is mostly a place of the list.
func drawnPlace(r *rand.Rand, tickets []int) int {
	if r.Intn(20) == 0 {
		return drawnInt(r)
	}
	return r.Intn(len(tickets)+2) - 1
}

// P17.1
func TestRightStrides(t *testing.T) {
	check := func(tickets int) {
		if got, want := Stride(tickets), plainStride(tickets); great(got).Cmp(want) != 0 {
			t.Fatalf("Stride(%d): %d, want %v", tickets, got, want)
		}
	}
	for tickets := -70000; tickets < 140000; tickets++ {
		check(tickets)
	}
	r := rand.New(rand.NewSource(1))
	for range 20000 {
		check(drawnInt(r))
	}
}

// near is a number close to n, if ints go so far, or else n.
func near(r *rand.Rand, n int) int {
	m := n + r.Intn(7) - 3
	if m > n+3 || m < n-3 {
		return n
	}
	return m
}

// P17.1
func TestRightPasses(t *testing.T) {
	r := rand.New(rand.NewSource(2))
	for range 200000 {
		pass, now, stride := drawnInt(r), drawnInt(r), drawnInt(r)
		if r.Intn(2) == 0 {
			stride = Stride(drawnTickets(r))
		}
		switch r.Intn(4) {
		case 0:
			pass = near(r, now)
		case 1:
			if sum, ok := Charge(now, stride); ok {
				pass = near(r, sum)
			}
		}
		if got, want := Enter(pass, now, stride), plainEnter(pass, now, stride); got != want {
			t.Fatalf("Enter(%d, %d, %d): %d, want %d", pass, now, stride, got, want)
		}
		if got, want := charged(pass, stride), plainCharge(pass, stride); got != want {
			t.Fatalf("Charge(%d, %d): %v, want %v", pass, stride, got, want)
		}
		id1, id2 := drawnInt(r), drawnInt(r)
		if r.Intn(4) == 0 {
			pass = now
		}
		order := great(pass).Cmp(great(now))
		want := order < 0 || order == 0 && great(id1).Cmp(great(id2)) < 0
		if got := Ahead(pass, id1, now, id2); got != want {
			t.Fatalf("Ahead(%d, %d, %d, %d): %v, want %v", pass, id1, now, id2, got, want)
		}
	}
}

// P17.1: what is entered stands where a thread that can run all the time would.
func TestEnteredPasses(t *testing.T) {
	r := rand.New(rand.NewSource(3))
	for range 100000 {
		pass, now, stride := drawnInt(r), drawnInt(r), Stride(drawnTickets(r))
		entered := Enter(pass, now, stride)
		if entered < now || minus(great(entered), great(now)).Cmp(great(stride)) > 0 {
			t.Fatalf("Enter(%d, %d, %d): %d", pass, now, stride, entered)
		}
		if again := Enter(entered, now, stride); again != entered {
			t.Fatalf("Enter(%d, %d, %d): %d", entered, now, stride, again)
		}
	}
}

// P17.2
func TestRightWithin(t *testing.T) {
	r := rand.New(rand.NewSource(4))
	ks := []int{-1, 0, 1, 2, 63, 64, 65, lowest, highest}
	for range 200000 {
		n1, n2, t1, t2 := drawnInt(r), drawnInt(r), drawnAnyTickets(r), drawnAnyTickets(r)
		if r.Intn(4) == 0 {
			n2 = near(r, n1)
			t2 = t1
		}
		k := ks[r.Intn(len(ks))]
		want := plainWithin(n1, t1, n2, t2, k)
		if got := Within(n1, t1, n2, t2, k); got != want {
			t.Fatalf("Within(%d, %d, %d, %d, %d): %v, want %v", n1, t1, n2, t2, k, got, want)
		}
		if got := Within(n2, t2, n1, t1, k); got != want {
			t.Fatalf("Within(%d, %d, %d, %d, %d): %v, want %v", n2, t2, n1, t1, k, got, want)
		}
	}
}

// P17.2: of counts around the ones that are just borne, on both sides.
func TestWithinAtItsEdge(t *testing.T) {
	r := rand.New(rand.NewSource(5))
	for range 30000 {
		t1, t2, k, n2 := drawnTickets(r), drawnTickets(r), r.Intn(65), drawnInt(r)
		borne := times(great(k+1), great(t1+t2))
		for _, most := range []*big.Int{borne, new(big.Int).Neg(borne)} {
			edge := new(big.Int).Div(plus(times(great(n2), great(t1)), most), great(t2))
			if !edge.IsInt64() || edge.CmpAbs(great(highest-3)) > 0 {
				continue
			}
			told := map[bool]int{}
			for d := -2; d <= 3; d++ {
				n1 := int(edge.Int64()) + d
				want := plainWithin(n1, t1, n2, t2, k)
				borneIs(t, n1, t1, n2, t2, k, want)
				told[want]++
			}
			if told[true] == 0 || told[false] == 0 {
				t.Fatalf("no edge: %v, of %d tickets, to %d of %d, %d", edge, t1, n2, t2, k)
			}
		}
	}
}

func borneIs(t *testing.T, n1, t1, n2, t2, k int, want bool) {
	t.Helper()
	if got := Within(n1, t1, n2, t2, k); got != want {
		t.Fatalf("Within(%d, %d, %d, %d, %d): %v, want %v", n1, t1, n2, t2, k, got, want)
	}
}

// P17.2, R3: of any lists, which stay as they are, and of which the same is told again.
func TestRightLists(t *testing.T) {
	r := rand.New(rand.NewSource(6))
	for range 30000 {
		tickets := drawnList(r)
		i, quanta := drawnPlace(r, tickets), drawnInt(r)
		before := slices.Clone(tickets)
		for range 2 {
			if got, want := Bound(tickets, i), plainBound(tickets, i); got != want {
				t.Fatalf("Bound(%v, %d): %d, want %d", tickets, i, got, want)
			}
			if got, want := shared(tickets, i, quanta), plainIdeal(tickets, i, quanta); got != want {
				t.Fatalf("Ideal(%v, %d, %d): %v, want %v", tickets, i, quanta, got, want)
			}
		}
		if !slices.Equal(tickets, before) {
			t.Fatalf("%v became %v", before, tickets)
		}
	}
}

// P17.2: the shares of all are all quanta, but for the rests; and those are so many
// times all tickets.
func TestSharesAreAllQuanta(t *testing.T) {
	r := rand.New(rand.NewSource(7))
	for range 5000 {
		tickets, quanta := drawnThreads(r), max(drawnInt(r), -drawnInt(r), 0)
		all, shares, rests := great(0), great(0), great(0)
		for _, n := range tickets {
			all = plus(all, great(n))
		}
		for i := range tickets {
			got := shared(tickets, i, quanta)
			if got[0] < 0 || got[0] > quanta || got[1] < 0 || great(got[1]).Cmp(all) >= 0 {
				t.Fatalf("Ideal(%v, %d, %d): %v", tickets, i, quanta, got)
			}
			shares, rests = plus(shares, great(got[0])), plus(rests, great(got[1]))
		}
		if plus(times(shares, all), rests).Cmp(times(great(quanta), all)) != 0 {
			t.Fatalf("%d quanta of %v: %v, with rests of %v", quanta, tickets, shares, rests)
		}
	}
}
