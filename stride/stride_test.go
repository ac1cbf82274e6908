package stride

import (
	"math"
	"slices"
	"testing"

	"wherry/api"
)

const (
	lowest  = math.MinInt
	highest = math.MaxInt
	rich    = api.MaxTickets
	many    = api.MaxThreads
)

// pair is what Charge and Ideal tell, if Charge's false is 0 and its true is 1.
type pair [2]int

func charged(pass, stride int) pair {
	sum, ok := Charge(pass, stride)
	if ok {
		return pair{sum, 1}
	}
	return pair{sum, 0}
}

func shared(tickets []int, i, quanta int) pair {
	share, rest := Ideal(tickets, i, quanta)
	return pair{share, rest}
}

// all are as many threads with n tickets.
func all(count, n int) []int {
	return slices.Repeat([]int{n}, count)
}

// with is l with n in the place i.
func with(l []int, i, n int) []int {
	l = slices.Clone(l)
	l[i] = n
	return l
}

// P17.1: One is no int alone, but fits wherever 2^40 does.
func TestOne(t *testing.T) {
	const want = 1099511627776
	var n int = One
	var u uint64 = One
	var f float64 = One
	if n != want || u != want || f != want {
		t.Errorf("One: %d, %d, %v, want %d", n, u, f, want)
	}
}

// P17.1
func TestStride(t *testing.T) {
	for _, c := range []struct{ tickets, want int }{
		// The chapter's example.
		{1, 1 << 40}, {3, 366503875925},
		{2, 1 << 39}, {4, 1 << 38}, {5, 219902325555}, {7, 157073089682}, {10, 109951162777},
		{1000, 1099511627}, {32768, 1 << 25}, {65534, 16777728}, {65535, 16777472}, {65536, 1 << 24},
		{0, 0}, {65537, 0}, {65538, 0}, {-1, 0}, {-2, 0}, {-65536, 0}, {1 << 20, 0},
		{One, 0}, {One + 1, 0}, {-One, 0}, {lowest, 0}, {lowest + 1, 0}, {highest, 0},
	} {
		for range 2 {
			if got := Stride(c.tickets); got != c.want {
				t.Errorf("Stride(%d): %d, want %d", c.tickets, got, c.want)
			}
		}
	}
}

// P17.1: the greatest number not above One / t, of each t that may be.
func TestStrideOfAllTickets(t *testing.T) {
	for tickets := 1; tickets <= rich; tickets++ {
		got := Stride(tickets)
		if got*tickets > One || (got+1)*tickets <= One {
			t.Fatalf("Stride(%d): %d", tickets, got)
		}
	}
}

// P17.1
func TestEnter(t *testing.T) {
	for _, c := range []struct{ pass, now, stride, want int }{
		// Below now, at it, between, at the sum, and above it.
		{5, 9, 3, 9}, {8, 9, 3, 9}, {9, 9, 3, 9}, {10, 9, 3, 10}, {11, 9, 3, 11},
		{12, 9, 3, 12}, {13, 9, 3, 12}, {50, 9, 3, 12},
		{lowest, 9, 3, 9}, {highest, 9, 3, 12}, {-1, 0, One, 0}, {One + 1, 0, One, One},
		{-9, -5, 3, -5}, {-4, -5, 3, -4}, {-2, -5, 3, -2}, {-1, -5, 3, -2}, {7, -5, 3, -2},
		// Without a stride, and with one below 0: the least counts.
		{8, 9, 0, 9}, {9, 9, 0, 9}, {10, 9, 0, 9},
		{5, 9, -3, 9}, {6, 9, -3, 9}, {7, 9, -3, 9}, {9, 9, -3, 9}, {10, 9, -3, 9},
		{lowest, 9, -3, 9}, {highest, 9, -3, 9},
		// The sum is as great as can be, and too great.
		{highest, highest - 3, 3, highest}, {highest - 1, highest - 3, 3, highest - 1},
		{highest, highest - 3, 4, highest}, {highest - 1, highest - 3, 4, highest - 1},
		{highest - 4, highest - 3, 4, highest - 3}, {highest, 1, highest, highest},
		{highest - 1, 1, highest, highest - 1}, {0, 1, highest, 1},
		{highest, highest, highest, highest}, {highest - 1, highest, highest, highest},
		{lowest, highest, highest, highest}, {highest, highest, 1, highest}, {highest, highest, 0, highest},
		{highest - 7, highest - 9, One, highest - 7}, {0, highest - 9, One, highest - 9},
		// The sum is as small as can be, and too small: now counts.
		{lowest, lowest + 3, -3, lowest + 3}, {lowest, lowest + 3, -4, lowest + 3},
		{0, lowest + 3, -4, lowest + 3}, {highest, lowest + 3, -4, lowest + 3},
		{lowest, lowest, -1, lowest}, {0, lowest, -1, lowest}, {highest, lowest, lowest, lowest},
		{0, -1, lowest, -1}, {lowest, -2, lowest, -2}, {7, 0, lowest, 0},
		// From end to end.
		{lowest, lowest, highest, lowest}, {0, lowest, highest, -1}, {-2, lowest, highest, -2},
		{highest, lowest, highest, -1}, {0, highest, lowest, highest}, {highest, lowest, 0, lowest},
	} {
		for range 2 {
			if got := Enter(c.pass, c.now, c.stride); got != c.want {
				t.Errorf("Enter(%d, %d, %d): %d, want %d", c.pass, c.now, c.stride, got, c.want)
			}
		}
	}
}

// P17.1
func TestCharge(t *testing.T) {
	for _, c := range []struct {
		pass, stride int
		want         pair
	}{
		{0, 0, pair{0, 1}}, {5, 3, pair{8, 1}}, {3, 5, pair{8, 1}}, {5, -3, pair{2, 1}}, {-5, -3, pair{-8, 1}},
		{One, One, pair{2 * One, 1}}, {-One, One, pair{0, 1}},
		{highest - 1, 1, pair{highest, 1}}, {highest - One, One, pair{highest, 1}},
		{highest, 0, pair{highest, 1}}, {0, lowest, pair{lowest, 1}}, {highest, lowest, pair{-1, 1}},
		{lowest + 1, -1, pair{lowest, 1}}, {lowest, highest, pair{-1, 1}}, {lowest + One, -One, pair{lowest, 1}},
		// Too great.
		{highest, 1, pair{}}, {1, highest, pair{}}, {highest - One + 1, One, pair{}},
		{1 << 62, 1 << 62, pair{}}, {highest, highest, pair{}},
		// Too small.
		{lowest, -1, pair{}}, {-1, lowest, pair{}}, {lowest + One - 1, -One, pair{}}, {lowest, lowest, pair{}},
	} {
		for range 2 {
			if got := charged(c.pass, c.stride); got != c.want {
				t.Errorf("Charge(%d, %d): %v, want %v", c.pass, c.stride, got, c.want)
			}
		}
	}
}

// P17.1: unlike passes with ids in each order, and like ones.
func TestAhead(t *testing.T) {
	edges := []int{lowest, lowest + 1, -1, 0, 1, 5, highest - 1, highest}
	for i, p1 := range edges {
		for j, p2 := range edges {
			for k, id1 := range edges {
				for l, id2 := range edges {
					want := i < j || i == j && k < l
					if got := Ahead(p1, id1, p2, id2); got != want {
						t.Errorf("Ahead(%d, %d, %d, %d): %v, want %v", p1, id1, p2, id2, got, want)
					}
				}
			}
		}
	}
}

// borne asks Within of two threads, twice, and of them changed about.
func borne(t *testing.T, n1, t1, n2, t2, k int, want bool) {
	t.Helper()
	for range 2 {
		if got := Within(n1, t1, n2, t2, k); got != want {
			t.Errorf("Within(%d, %d, %d, %d, %d): %v, want %v", n1, t1, n2, t2, k, got, want)
		}
		if got := Within(n2, t2, n1, t1, k); got != want {
			t.Errorf("changed about: Within(%d, %d, %d, %d, %d): %v, want %v", n2, t2, n1, t1, k, got, want)
		}
	}
}

// P17.2
func TestWithin(t *testing.T) {
	for _, c := range []struct {
		n1, t1, n2, t2, k int
		want              bool
	}{
		{0, 1, 0, 1, 0, true}, {10, 1, 20, 2, 0, true}, {10, 1, 20, 2, 64, true},
		// 1 and 1 tickets: 2 are borne of each pick.
		{2, 1, 0, 1, 0, true}, {3, 1, 0, 1, 0, false},
		{4, 1, 0, 1, 1, true}, {5, 1, 0, 1, 1, false},
		{130, 1, 0, 1, 64, true}, {131, 1, 0, 1, 64, false},
		{0, 1, -4, 1, 1, true}, {0, 1, -5, 1, 1, false}, {-2, 1, 2, 1, 1, true}, {-2, 1, 3, 1, 1, false},
		// 2 and 5 tickets: 7 are borne of each pick.
		{5, 2, 9, 5, 0, true}, {5, 2, 16, 5, 0, true}, {6, 2, 10, 5, 0, false},
		{6, 2, 8, 5, 1, true}, {6, 2, 7, 5, 1, false}, {6, 2, 22, 5, 1, true}, {6, 2, 23, 5, 1, false},
		// The greatest tickets: 2^17 are borne of each pick.
		{2, rich, 0, rich, 0, true}, {3, rich, 0, rich, 0, false},
		{4, rich, 0, rich, 1, true}, {5, rich, 0, rich, 1, false},
		{130, rich, 0, rich, 64, true}, {131, rich, 0, rich, 64, false},
		{0, 1, 65537, rich, 0, true}, {0, 1, 65538, rich, 0, false}, {1, 1, 0, rich, 0, true}, {2, 1, 0, rich, 0, false},
		{65, 1, 0, rich, 64, true}, {66, 1, 0, rich, 64, false},
		{0, 1, 4259905, rich, 64, true}, {0, 1, 4259906, rich, 64, false},
		// k that may not be.
		{0, 1, 0, 1, -1, false}, {10, 1, 20, 2, -1, false}, {0, 1, 0, 1, -2, false}, {0, 1, 0, 1, lowest, false},
		{0, 1, 0, 1, 65, false}, {10, 1, 20, 2, 65, false}, {0, 1, 0, 1, highest, false}, {0, 1, 0, 1, highest - 1, false},
		// Tickets that may not be.
		{0, 0, 0, 1, 1, false}, {0, -1, 0, 1, 1, false}, {0, rich + 1, 0, 1, 1, false}, {0, 0, 0, 0, 1, false},
		{0, rich + 1, 0, rich + 1, 64, false}, {0, lowest, 0, 1, 1, false}, {0, highest, 0, 1, 1, false},
		{0, highest, 0, highest, 0, false}, {0, lowest, 0, lowest, 0, false}, {0, -1, 0, rich, 1, false},
		{7, -2, 7, -2, 0, false}, {0, rich + 1, 0, rich, 0, false},
	} {
		borne(t, c.n1, c.t1, c.n2, c.t2, c.k, c.want)
	}
}

// P17.2: where the products, or their difference, are no ints.
func TestWithinOfGreatCounts(t *testing.T) {
	for _, c := range []struct {
		n1, t1, n2, t2, k int
		want              bool
	}{
		{highest, 1, highest, 1, 0, true}, {lowest, rich, lowest, rich, 0, true}, {highest, rich, highest, rich, 64, true},
		{highest, rich, highest - 2, rich, 0, true}, {highest, rich, highest - 3, rich, 0, false},
		{lowest, rich, lowest + 4, rich, 1, true}, {lowest, rich, lowest + 5, rich, 1, false},
		{highest, 1, lowest, 1, 64, false}, {lowest, 1, highest, 1, 0, false},
		{highest, rich, lowest, rich, 64, false}, {highest, 1, lowest, rich, 64, false},
		{highest, 1, -2, 1, 0, false}, {lowest, 1, 0, 1, 64, false}, {highest, 1, 0, 1, 64, false},
		{highest, 2, highest / 2, 1, 0, true}, {highest, 2, highest/2 - 1, 1, 0, true}, {highest, 2, highest/2 - 2, 1, 0, false},
		{highest, rich, highest / rich, 1, 0, true}, {highest, rich, highest/rich - 1, 1, 0, false},
		{highest, rich, highest/rich + 2, 1, 0, true}, {highest, rich, highest/rich + 3, 1, 0, false},
		{highest, rich, highest, rich - 1, 64, false}, {highest, 1, highest, rich, 64, false},
		// Modulo 2^64 all these would be as much.
		{1 << 48, 1, 0, rich, 0, false}, {1 << 62, 4, 0, 4, 0, false}, {lowest, 2, 0, 2, 64, false},
		{1 << 47, 1, -1 << 47, rich, 64, false},
	} {
		borne(t, c.n1, c.t1, c.n2, c.t2, c.k, c.want)
	}
}

// badLists are those of which Bound and Ideal tell nothing, whatever i is.
func badLists() [][]int {
	l := [][]int{nil, {}, all(many+1, 1), all(many+1, rich), all(1000, 1), {0}, all(many, 0), all(many+1, 0)}
	for _, n := range []int{0, -1, rich + 1, lowest, highest, One} {
		l = append(l, []int{n}, []int{n, n})
		for _, count := range []int{2, 3, many} {
			for _, i := range []int{0, count / 2, count - 1} {
				l = append(l, with(all(count, 1), i, n))
			}
		}
	}
	return l
}

// P17.2
func TestBound(t *testing.T) {
	for _, c := range []struct {
		tickets []int
		i, want int
	}{
		// Of itself two and one, of the other one two and how often its stride goes into i's.
		{[]int{1, 2}, 0, 7}, {[]int{1, 2}, 1, 5},
		{[]int{1}, 0, 3}, {[]int{rich}, 0, 3}, {[]int{65535}, 0, 3},
		{[]int{1, 1}, 0, 6}, {[]int{rich, rich}, 1, 6}, {[]int{3, 3, 3}, 1, 9},
		{[]int{1, rich}, 0, 65541}, {[]int{1, rich}, 1, 5}, {[]int{rich, 1}, 1, 65541},
		{[]int{1, 2, 3}, 0, 12}, {[]int{1, 2, 3}, 1, 8}, {[]int{1, 2, 3}, 2, 7},
		{[]int{2, 5}, 0, 7}, {[]int{2, 4}, 0, 7}, {[]int{2, 6}, 0, 8}, {[]int{3, 2}, 1, 6},
		// Strides that are rounded down, and go in just so often, or not once more.
		{[]int{3, 6}, 0, 7}, {[]int{3, 9}, 0, 8}, {[]int{7, 14}, 0, 7}, {[]int{7, 13}, 0, 6},
		{[]int{32767, 65534}, 0, 7}, {[]int{32768, 65535}, 0, 6}, {[]int{21845, 65535}, 0, 8}, {[]int{21845, 65534}, 0, 7},
		{all(many, 1), 0, 96}, {all(many, rich), many - 1, 96}, {with(all(many, rich), 0, 1), 0, 2031681},
		{with(all(many, 1), many-1, rich), 0, 65631}, {with(all(many, 1), many-1, rich), many - 1, 65},
		// No such thread.
		{[]int{1, 2}, -1, 0}, {[]int{1, 2}, 2, 0}, {[]int{1, 2}, 3, 0}, {[]int{1}, 1, 0},
		{[]int{1, 2}, lowest, 0}, {[]int{1, 2}, highest, 0}, {all(many, 1), many, 0}, {all(many, 1), -1, 0},
	} {
		for range 2 {
			if got := Bound(c.tickets, c.i); got != c.want {
				t.Errorf("Bound(%v, %d): %d, want %d", c.tickets, c.i, got, c.want)
			}
		}
	}
}

// P17.2
func TestIdeal(t *testing.T) {
	for _, c := range []struct {
		tickets   []int
		i, quanta int
		want      pair
	}{
		{[]int{1, 2}, 0, 30, pair{10, 0}}, {[]int{1, 2}, 1, 30, pair{20, 0}},
		{[]int{1, 2}, 0, 31, pair{10, 1}}, {[]int{1, 2}, 1, 31, pair{20, 2}},
		{[]int{1, 2}, 0, 32, pair{10, 2}}, {[]int{1, 2}, 1, 32, pair{21, 1}},
		{[]int{5}, 0, 7, pair{7, 0}}, {[]int{3, 5, 7}, 1, 100, pair{33, 5}},
		{[]int{1, rich}, 0, 65536, pair{0, 65536}}, {[]int{1, rich}, 0, 65537, pair{1, 0}},
		{[]int{1, rich}, 1, 1, pair{0, 65536}}, {[]int{1, rich}, 1, 2, pair{1, 65535}},
		{all(many, rich), 31, 31, pair{0, 31 * rich}}, {all(many, rich), 31, 32, pair{1, 0}},
		// Quanta of 0 and 1, and below 0.
		{[]int{1, 2}, 0, 0, pair{0, 0}}, {[]int{1, 2}, 0, 1, pair{0, 1}}, {[]int{1, 2}, 1, 1, pair{0, 2}},
		{[]int{1}, 0, 0, pair{0, 0}}, {[]int{1}, 0, 1, pair{1, 0}}, {[]int{rich}, 0, 1, pair{1, 0}},
		{[]int{1, 2}, 0, -1, pair{0, 0}}, {[]int{1, 2}, 1, -31, pair{0, 0}}, {[]int{1, 2}, 1, lowest, pair{0, 0}},
		// Quanta times tickets is no int.
		{[]int{1}, 0, highest, pair{highest, 0}}, {[]int{rich}, 0, highest, pair{highest, 0}},
		{all(many, rich), 0, highest, pair{288230376151711743, 31 * rich}},
		{[]int{1, 2}, 0, highest, pair{3074457345618258602, 1}}, {[]int{1, 2}, 1, highest, pair{6148914691236517204, 2}},
		{[]int{1, rich}, 1, highest, pair{9223231301513871359, 32769}}, {[]int{1, rich}, 0, highest, pair{140735340904447, 32768}},
		// No such thread.
		{[]int{1, 2}, -1, 30, pair{}}, {[]int{1, 2}, 2, 30, pair{}}, {[]int{1, 2}, 3, 30, pair{}}, {[]int{1}, 1, 30, pair{}},
		{[]int{1, 2}, lowest, 30, pair{}}, {[]int{1, 2}, highest, 30, pair{}},
		{all(many, 1), many, 64, pair{}}, {all(many, 1), -1, 64, pair{}}, {all(many, 1), many - 1, 64, pair{2, 0}},
	} {
		for range 2 {
			if got := shared(c.tickets, c.i, c.quanta); got != c.want {
				t.Errorf("Ideal(%v, %d, %d): %v, want %v", c.tickets, c.i, c.quanta, got, c.want)
			}
		}
	}
}

// P17.2, P1: lists of which nothing can be told.
func TestBadLists(t *testing.T) {
	for _, tickets := range badLists() {
		for _, i := range []int{0, 1, 2, many - 1, many, -1, len(tickets) - 1, len(tickets), lowest, highest} {
			if got := Bound(tickets, i); got != 0 {
				t.Errorf("Bound(%v, %d): %d, want 0", tickets, i, got)
			}
			for _, quanta := range []int{30, 0, -1, lowest, highest} {
				if got := shared(tickets, i, quanta); got != (pair{}) {
					t.Errorf("Ideal(%v, %d, %d): %v, want 0, 0", tickets, i, quanta, got)
				}
			}
		}
	}
}

// R3: neither a list nor what lies in the room behind it is changed or looked at.
func TestListsStay(t *testing.T) {
	for _, tickets := range [][]int{{}, {1}, {5, 3, 9, 1}, {2, 0, 7}, all(many, 3), all(many+1, 3)} {
		room := append(slices.Clone(tickets), 0, -1, rich+1, 7)
		before := slices.Clone(room)
		given := room[:len(tickets)]
		for i := -1; i <= len(tickets); i++ {
			bound, want := Bound(given, i), Bound(slices.Clip(slices.Clone(tickets)), i)
			if bound != want {
				t.Errorf("Bound(%v, %d): %d, want %d", given, i, bound, want)
			}
			Ideal(given, i, 100)
			Ideal(given, i, -1)
		}
		if !slices.Equal(room, before) {
			t.Errorf("%v became %v", before, room)
		}
	}
}

// R3, R4: a list that its caller changed is another one.
func TestListsAreNotKept(t *testing.T) {
	tickets := []int{1, 2}
	if got := Bound(tickets, 0); got != 7 {
		t.Errorf("Bound: %d, want 7", got)
	}
	if got := shared(tickets, 0, 30); got != (pair{10, 0}) {
		t.Errorf("Ideal: %v, want 10, 0", got)
	}
	tickets[1] = 5
	if got := Bound(tickets, 0); got != 10 {
		t.Errorf("Bound behind the change: %d, want 10", got)
	}
	if got := shared(tickets, 0, 30); got != (pair{5, 0}) {
		t.Errorf("Ideal behind the change: %v, want 5, 0", got)
	}
}
