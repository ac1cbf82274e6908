package share

import (
	"math"
	"slices"
	"testing"

	"wherry/api"
)

const (
	lowest  = math.MinInt
	highest = math.MaxInt
	heavy   = api.MaxWeight
)

// claims are those of the weights and demands, which stand by turns.
func claims(numbers ...int) []api.Claim {
	var l []api.Claim
	for pair := range slices.Chunk(numbers, 2) {
		l = append(l, api.Claim{Weight: pair[0], Demand: pair[1]})
	}
	return l
}

// many are so many claims of one weight and demand.
func many(count, weight, demand int) []api.Claim {
	return slices.Repeat(claims(weight, demand), count)
}

// all is as many numbers n as that.
func all(count, n int) []int {
	return slices.Repeat([]int{n}, count)
}

// with is l with c in the place of claim i.
func with(l []api.Claim, i int, c api.Claim) []api.Claim {
	l = slices.Clone(l)
	l[i] = c
	return l
}

// badClaims are claims of which no list has one and is Good.
func badClaims() []api.Claim {
	return claims(
		0, 1, -1, 1, heavy+1, 1, lowest, 1, highest, 1,
		1, -1, 1, 65, 1, lowest, 1, highest,
		0, -1, heavy+1, 65, 0, 0,
	)
}

// badLists are claims that are not Good.
func badLists() [][]api.Claim {
	lists := [][]api.Claim{many(65, 1, 1), many(65, 1, 0), many(1000, 3, 64)}
	for _, c := range badClaims() {
		lists = append(lists,
			[]api.Claim{c},
			with(many(3, 1, 4), 0, c),
			with(many(3, 1, 4), 1, c),
			with(many(64, 1, 4), 63, c),
		)
	}
	return lists
}

// otherLengths are numbers, fewer or more than there are claims.
func otherLengths(l []api.Claim) [][]int {
	lists := [][]int{all(len(l)+1, 0), all(len(l)+1, 1), all(len(l)+64, 0)}
	if len(l) > 0 {
		lists = append(lists, nil, []int{}, all(len(l)-1, 0), all(len(l)-1, 1))
	}
	return lists
}

func is[T comparable](t *testing.T, what string, got, want T) {
	t.Helper()
	if got != want {
		t.Errorf("%s: %v, want %v", what, got, want)
	}
}

func are(t *testing.T, what string, got, want []int) {
	t.Helper()
	if !slices.Equal(got, want) {
		t.Errorf("%s: %v, want %v", what, got, want)
	}
}

// P8.1
func TestGood(t *testing.T) {
	for _, l := range [][]api.Claim{
		nil,
		{},
		claims(1, 0),
		claims(1, 1),
		claims(1, 64),
		claims(heavy, 0),
		claims(heavy, 64),
		claims(1, 4, 3, 4),
		many(63, 1, 64),
		many(64, heavy, 64),
		many(64, 1, 0),
	} {
		is(t, "Good", Good(l), true)
	}
	for _, l := range badLists() {
		if Good(l) {
			t.Errorf("Good(%v): true", l)
		}
	}
}

// P8.1
func TestLevel(t *testing.T) {
	for _, c := range []struct {
		l    []api.Claim
		x    []int
		want int // of 0 against 1
	}{
		{claims(1, 4, 1, 4), []int{0, 0}, 0},
		{claims(1, 4, 3, 4), []int{0, 0}, 0},
		{claims(1, 4, 1, 4), []int{1, 2}, -1},
		{claims(1, 4, 1, 4), []int{2, 1}, 1},
		{claims(1, 4, 3, 4), []int{1, 3}, 0},
		{claims(1, 4, 3, 4), []int{1, 2}, 1},
		{claims(1, 4, 3, 4), []int{1, 4}, -1},
		{claims(1, 4, 3, 4), []int{0, 1}, -1},
		{claims(3, 4, 1, 4), []int{1, 0}, 1},
		// Parted and rounded down they would be as much.
		{claims(3, 4, 2, 4), []int{1, 1}, -1},
		{claims(2, 4, 3, 4), []int{1, 1}, 1},
		{claims(7, 4, 5, 4), []int{10, 7}, 1},
		{claims(heavy, 4, heavy-1, 4), []int{1, 1}, -1},
		{claims(heavy, 4, heavy-1, 4), []int{0, 0}, 0},
		{claims(heavy, 4, 1, 4), []int{64, 1}, -1},
		{claims(heavy, 4, 1, 4), []int{heavy, 1}, 0},
		{claims(heavy, 4, 1, 4), []int{heavy + 1, 1}, 1},
		// What they demand is nothing to it.
		{claims(1, 0, 1, 64), []int{1, 2}, -1},
		{claims(1, 64, 1, 0), []int{2, 2}, 0},
		// Below 0, too.
		{claims(1, 4, 1, 4), []int{-1, 0}, -1},
		{claims(1, 4, 3, 4), []int{-1, -3}, 0},
		{claims(1, 4, 3, 4), []int{-1, -4}, 1},
		{claims(1, 4, 3, 4), []int{-1, -2}, -1},
		{claims(heavy, 4, heavy-1, 4), []int{-1, -1}, 1},
		// And at the ends.
		{claims(1, 4, 1, 4), []int{lowest, highest}, -1},
		{claims(1, 4, 1, 4), []int{highest, highest - 1}, 1},
		{claims(1, 4, 1, 4), []int{lowest, lowest + 1}, -1},
		{claims(heavy, 4, 1, 4), []int{highest, highest}, -1},
		{claims(heavy, 4, 1, 4), []int{lowest, lowest}, 1},
		{claims(heavy, 4, heavy-1, 4), []int{highest, highest}, -1},
		{claims(heavy, 4, heavy, 4), []int{lowest, lowest}, 0},
		{claims(heavy, 4, heavy/2, 4), []int{lowest, lowest / 2}, 0},
		{claims(heavy, 4, heavy/2, 4), []int{highest, highest / 2}, 1},
	} {
		if got := Level(c.l, c.x, 0, 1); got != c.want {
			t.Errorf("Level(%v, %v, 0, 1): %d, want %d", c.l, c.x, got, c.want)
		}
		if got := Level(c.l, c.x, 1, 0); got != -c.want {
			t.Errorf("Level(%v, %v, 1, 0): %d, want %d", c.l, c.x, got, -c.want)
		}
	}
}

// P8.1
func TestLevelOfOneWithItself(t *testing.T) {
	l := claims(1, 4, 3, 4, heavy, 4, 2, 4)
	x := []int{lowest, 3, highest, -1}
	for i := range l {
		is(t, "Level", Level(l, x, i, i), 0)
	}
}

// P8.1: each of several stands where it is asked for.
func TestLevelOfSeveral(t *testing.T) {
	l, x := claims(1, 9, 2, 9, 3, 9, 4, 9), []int{4, 6, 6, 4}
	for i := range l {
		for j := range l {
			// They have 4, 3, 2 and 1 for their weights.
			want := 0
			switch {
			case i < j:
				want = 1
			case i > j:
				want = -1
			}
			is(t, "Level", Level(l, x, i, j), want)
		}
	}
}

// P8.1, P1: where that can't be asked.
func TestLevelOfNone(t *testing.T) {
	l, x := claims(1, 4, 1, 4), []int{1, 2}
	for _, i := range []int{-1, 2, 3, lowest, highest} {
		for _, j := range []int{0, 1} {
			is(t, "Level of no i", Level(l, x, i, j), 0)
			is(t, "Level of no j", Level(l, x, j, i), 0)
		}
		is(t, "Level of neither", Level(l, x, i, i), 0)
	}
	is(t, "Level of no claims", Level(nil, nil, 0, 0), 0)
	is(t, "Level of nil numbers", Level(l, nil, 0, 1), 0)
	is(t, "Level of nil claims", Level(nil, x, 0, 1), 0)
	for _, x := range [][]int{{1}, {1, 2, 3}, {1, 2, 0, 0}} {
		is(t, "Level of other lengths", Level(l, x, 0, 1), 0)
		is(t, "Level of other lengths", Level(l, x, 1, 0), 0)
	}
	for _, l := range badLists() {
		x := make([]int, len(l))
		x[0] = 7
		last := len(l) - 1
		is(t, "Level of bad claims", Level(l, x, 0, last), 0)
		is(t, "Level of bad claims", Level(l, x, last, 0), 0)
	}
}

// P8.1
func TestNext(t *testing.T) {
	for _, c := range []struct {
		l     []api.Claim
		x     []int
		start int
		want  int
	}{
		{nil, nil, 0, -1},
		{[]api.Claim{}, []int{}, 5, -1},
		{nil, nil, lowest, -1},
		{claims(1, 0), []int{0}, 0, -1},
		{claims(1, 1), []int{0}, 0, 0},
		{claims(1, 1), []int{1}, 0, -1},
		{claims(1, 1), []int{2}, 0, -1},
		{claims(1, 64), []int{63}, 0, 0},
		{claims(1, 64), []int{64}, 0, -1},
		{claims(1, 0), []int{-1}, 0, 0},
		{claims(1, 0), []int{lowest}, 0, 0},
		{claims(1, 64), []int{highest}, 0, -1},
		// The one that has least for its weight, wherever start is.
		{claims(1, 4, 3, 4), []int{1, 1}, 0, 1},
		{claims(1, 4, 3, 4), []int{1, 1}, 1, 1},
		{claims(3, 4, 1, 4), []int{1, 1}, 0, 0},
		{claims(3, 4, 1, 4), []int{1, 1}, 1, 0},
		{claims(1, 4, 1, 4, 1, 4), []int{3, 2, 1}, 0, 2},
		{claims(1, 4, 1, 4, 1, 4), []int{1, 2, 3}, 2, 0},
		{claims(2, 4, 3, 4, 5, 4), []int{1, 1, 2}, 0, 1},
		{claims(heavy, 4, heavy-1, 4), []int{1, 1}, 1, 0},
		// But not one that has what it demands.
		{claims(1, 4, 1, 0), []int{3, 0}, 1, 0},
		{claims(1, 4, 1, 1), []int{3, 1}, 1, 0},
		{claims(1, 2, 1, 4), []int{2, 3}, 0, 1},
		{claims(1, 2, 1, 3, 1, 4), []int{2, 3, 4}, 0, -1},
		{claims(1, 2, 1, 3, 1, 4), []int{2, 3, 3}, 0, 2},
		{claims(1, 2, 1, 3, 1, 4), []int{2, 2, 4}, 2, 1},
		// Numbers at the ends.
		{claims(1, 4, 1, 4), []int{0, lowest}, 0, 1},
		{claims(1, 4, heavy, 4), []int{lowest, lowest}, 1, 0},
		{claims(1, 4, heavy, 4), []int{lowest, highest}, 1, 0},
	} {
		if got := Next(c.l, c.x, c.start); got != c.want {
			t.Errorf("Next(%v, %v, %d): %d, want %d", c.l, c.x, c.start, got, c.want)
		}
	}
}

// P8.1: of several that have as little the first from start on, round.
func TestNextFromStart(t *testing.T) {
	three := claims(1, 4, 1, 4, 1, 4)
	for _, c := range []struct {
		x     []int
		start int
		want  int
	}{
		{[]int{0, 0, 0}, 0, 0},
		{[]int{0, 0, 0}, 1, 1},
		{[]int{0, 0, 0}, 2, 2},
		{[]int{0, 0, 0}, 3, 0},
		{[]int{0, 0, 0}, 4, 1},
		{[]int{0, 0, 0}, 3000002, 2},
		{[]int{0, 0, 0}, -1, 2},
		{[]int{0, 0, 0}, -2, 1},
		{[]int{0, 0, 0}, -3, 0},
		{[]int{0, 0, 0}, -4, 2},
		{[]int{0, 0, 0}, highest, 1}, // three goes into 2^63 - 2, and into -2^63 - 1
		{[]int{0, 0, 0}, highest - 1, 0},
		{[]int{0, 0, 0}, lowest, 1},
		{[]int{0, 0, 0}, lowest + 1, 2},
		{[]int{1, 0, 0}, 0, 1},
		{[]int{1, 0, 0}, 2, 2},
		{[]int{0, 0, 1}, 2, 0},
		{[]int{0, 1, 0}, 1, 2},
		{[]int{0, 1, 0}, -2, 2},
		{[]int{0, 1, 0}, 3, 0},
		{[]int{4, 4, 0}, 0, 2},
	} {
		if got := Next(three, c.x, c.start); got != c.want {
			t.Errorf("Next of three(%v, %d): %d, want %d", c.x, c.start, got, c.want)
		}
	}
	// Claims 1 and 2 have as much for their weights, and claim 0 more.
	weighed := claims(1, 9, 2, 9, 4, 9)
	is(t, "Next", Next(weighed, []int{2, 2, 4}, 0), 1)
	is(t, "Next", Next(weighed, []int{2, 2, 4}, 1), 1)
	is(t, "Next", Next(weighed, []int{2, 2, 4}, 2), 2)
	one := claims(5, 1)
	for _, start := range []int{lowest, -1, 0, 1, 2, highest} {
		is(t, "Next of one", Next(one, []int{0}, start), 0)
	}
	for _, start := range []int{0, 1, 63, 64, 65, -1, -64, lowest, highest} {
		want := (start%64 + 64) % 64
		is(t, "Next of 64", Next(many(64, 1, 1), all(64, 0), start), want)
	}
}

// P8.1, P1
func TestNextOfNone(t *testing.T) {
	for _, l := range [][]api.Claim{nil, claims(1, 4), claims(1, 4, 3, 4), many(64, 1, 64)} {
		for _, x := range otherLengths(l) {
			is(t, "Next of other lengths", Next(l, x, 0), -1)
		}
	}
	for _, l := range badLists() {
		is(t, "Next of bad claims", Next(l, all(len(l), 0), 0), -1)
		is(t, "Next of bad claims, below 0", Next(l, all(len(l), -1), 0), -1)
	}
}

// P8.1
func TestHungry(t *testing.T) {
	for _, c := range []struct {
		l    []api.Claim
		x    []int
		want []int
	}{
		{nil, nil, nil},
		{[]api.Claim{}, []int{}, nil},
		{claims(1, 0), []int{0}, nil},
		{claims(1, 1), []int{0}, []int{0}},
		{claims(1, 1), []int{1}, nil},
		{claims(1, 1), []int{2}, nil},
		{claims(1, 0), []int{-1}, []int{0}},
		{claims(1, 64), []int{63}, []int{0}},
		{claims(1, 64), []int{64}, nil},
		{claims(9, 4, 1, 4, 5, 4, 7, 4), []int{3, 4, 0, 1}, []int{0, 2, 3}},
		{claims(9, 4, 1, 4, 5, 4, 7, 4), []int{4, 3, 4, 2}, []int{1, 3}},
		{claims(1, 2, 1, 3, 1, 4), []int{2, 3, 4}, nil},
		{claims(1, 2, 1, 3, 1, 4), []int{lowest, highest, lowest}, []int{0, 2}},
		{many(64, 1, 1), all(64, 1), nil},
		// They are told of claims that are not Good, too.
		{claims(0, 1, heavy+1, 1, 1, 1), []int{0, 0, 1}, []int{0, 1}},
		{claims(1, 65, 1, -1), []int{64, -2}, []int{0, 1}},
		{claims(1, 65, 1, -1), []int{65, -1}, nil},
		{claims(lowest, highest, highest, lowest), []int{highest - 1, lowest}, []int{0}},
	} {
		are(t, "Hungry", Hungry(c.l, c.x), c.want)
	}
	rising := make([]int, 65)
	for i := range rising {
		rising[i] = i
	}
	are(t, "Hungry of 64", Hungry(many(64, 1, 1), all(64, 0)), rising[:64])
	are(t, "Hungry of 65", Hungry(many(65, 1, 1), all(65, 0)), rising)
}

// P8.1, P1
func TestHungryOfOtherLengths(t *testing.T) {
	for _, l := range [][]api.Claim{nil, claims(1, 4), claims(1, 4, 3, 4), many(64, 1, 64)} {
		for _, x := range otherLengths(l) {
			are(t, "Hungry", Hungry(l, x), nil)
		}
	}
}

// P8.1, R6
func TestTotal(t *testing.T) {
	for _, c := range []struct {
		x    []int
		want int
	}{
		{nil, 0},
		{[]int{}, 0},
		{[]int{0}, 0},
		{[]int{7}, 7},
		{[]int{-7}, -7},
		{[]int{1, 3}, 4},
		{[]int{5, -8, 2}, -1},
		{all(64, 1), 64},
		{all(1000, 64), 64000},
		{all(100000, -3), -300000},
		{[]int{1<<32 - 1, 1}, 1 << 32},
		{[]int{1<<32 - 1, 1<<32 - 1, 1<<32 - 1}, 3<<32 - 3},
		{[]int{-1 << 32, -1}, -1<<32 - 1},
		{[]int{highest}, highest},
		{[]int{lowest}, lowest},
		{[]int{highest, lowest}, -1},
		{[]int{highest - 1, 1}, highest},
		{[]int{lowest + 1, -1}, lowest},
		{[]int{1 << 62, 1<<62 - 1}, highest},
		{[]int{-1 << 62, -1 << 62}, lowest},
		// Too great on the way alone.
		{[]int{highest, 1, -1}, highest},
		{[]int{lowest, -1, 1}, lowest},
		{[]int{highest, highest, lowest, lowest}, -2},
		{[]int{lowest, lowest, highest, highest}, -2},
		{[]int{highest, highest, highest, lowest, lowest, lowest, 5}, 2},
		{[]int{highest, highest, lowest}, highest - 1},
		{[]int{1, lowest, -1, highest}, -1},
		// No int is the sum.
		{[]int{highest, 1}, 0},
		{[]int{lowest, -1}, 0},
		{[]int{1 << 62, 1 << 62}, 0},
		{[]int{highest, highest}, 0},
		{[]int{lowest, lowest}, 0},
		{[]int{highest, 1, 5}, 0},
		{all(4, highest), 0},
		{all(1000, lowest), 0},
		{all(1000, highest), 0},
	} {
		if got := Total(c.x); got != c.want {
			t.Errorf("Total(%v): %d, want %d", c.x, got, c.want)
		}
	}
}

// parting is what Divide is asked, and what it must tell.
type parting struct {
	cores int
	l     []api.Claim
	start int
	want  []int
}

func partings() []parting {
	two := claims(1, 4, 3, 4)
	return []parting{
		// Example 1.
		{4, two, 0, []int{1, 3}},
		{4, claims(1, 4, 3, 2), 0, []int{2, 2}},
		{0, two, 0, []int{0, 0}},
		{1, two, 0, []int{1, 0}},
		{1, two, 1, []int{0, 1}},
		{2, two, 0, []int{1, 1}},
		{3, two, 0, []int{1, 2}},
		{3, two, 1, []int{1, 2}},
		{5, two, 0, []int{2, 3}},
		{5, two, 1, []int{1, 4}},
		{7, two, 0, []int{3, 4}},
		{8, two, 0, []int{4, 4}},
		{9, two, 0, []int{4, 4}},
		{64, two, 1, []int{4, 4}},
		// No claims, one, and 64.
		{0, nil, 0, nil},
		{4, nil, 0, nil},
		{64, []api.Claim{}, -1, nil},
		{64, claims(1, 64), 0, []int{64}},
		{63, claims(1, 64), 0, []int{63}},
		{64, claims(heavy, 63), 0, []int{63}},
		{64, claims(1, 0), 0, []int{0}},
		{0, claims(1, 64), 0, []int{0}},
		{64, many(64, 1, 64), 0, all(64, 1)},
		{64, many(64, heavy, 64), 17, all(64, 1)},
		{64, many(64, 5, 0), 0, all(64, 0)},
		{64, many(32, 1, 64), 3, all(32, 2)},
		// Weights at their ends.
		{64, claims(heavy, 64, 1, 64), 0, []int{63, 1}},
		{64, claims(heavy, 64, 1, 64), 1, []int{63, 1}},
		{1, claims(heavy, 64, 1, 64), 1, []int{0, 1}},
		{64, claims(heavy, 10, 1, 64), 0, []int{10, 54}},
		{3, claims(heavy, 64, heavy-1, 64), 1, []int{2, 1}},
		// Who is first in the round has the core that is one too many.
		{4, many(3, 1, 9), 0, []int{2, 1, 1}},
		{4, many(3, 1, 9), 1, []int{1, 2, 1}},
		{4, many(3, 1, 9), 2, []int{1, 1, 2}},
		{4, many(3, 1, 9), 3, []int{2, 1, 1}},
		{5, many(3, 1, 9), 2, []int{2, 1, 2}},
		{4, many(3, 1, 9), -1, []int{1, 1, 2}},
		{4, many(3, 1, 9), -3, []int{2, 1, 1}},
		{4, many(3, 1, 9), -5, []int{1, 2, 1}},
		{4, many(3, 1, 9), highest, []int{1, 2, 1}},
		{4, many(3, 1, 9), lowest, []int{1, 2, 1}},
		// What some don't demand goes to the others.
		{6, claims(1, 1, 1, 9, 1, 0), 0, []int{1, 5, 0}},
		{7, claims(3, 1, 2, 9, 1, 9), 0, []int{1, 4, 2}},
		{10, claims(1, 2, 2, 3, 4, 64), 0, []int{2, 3, 5}},
		{64, claims(1, 2, 2, 3, 4, 4), 0, []int{2, 3, 4}},
	}
}

// P8.2, example 1
func TestDivide(t *testing.T) {
	for _, p := range partings() {
		got := Divide(p.cores, p.l, p.start)
		if !slices.Equal(got, p.want) {
			t.Errorf("Divide(%d, %v, %d): %v, want %v", p.cores, p.l, p.start, got, p.want)
		}
	}
}

// P8.2, P1
func TestDivideOfNone(t *testing.T) {
	for _, cores := range []int{-1, 65, -64, lowest, highest} {
		are(t, "Divide of bad cores", Divide(cores, claims(1, 4, 3, 4), 0), nil)
		are(t, "Divide of bad cores", Divide(cores, nil, 0), nil)
	}
	for _, l := range badLists() {
		for _, cores := range []int{-1, 0, 1, 64, 65} {
			are(t, "Divide of bad claims", Divide(cores, l, 0), nil)
		}
	}
}

// beside are the lists that are not x but one core off: one more, one less, or
// at another one's.
func beside(x []int) [][]int {
	var lists [][]int
	for i := range x {
		for _, by := range []int{1, -1} {
			off := slices.Clone(x)
			off[i] += by
			lists = append(lists, off)
			for j := range x {
				if j != i {
					moved := slices.Clone(off)
					moved[j] -= by
					lists = append(lists, moved)
				}
			}
		}
	}
	return lists
}

// P8.2
func TestFair(t *testing.T) {
	for _, p := range partings() {
		if !Fair(p.cores, p.l, p.start, p.want) {
			t.Errorf("Fair(%d, %v, %d, %v): false", p.cores, p.l, p.start, p.want)
		}
		for _, x := range append(beside(p.want), otherLengths(p.l)...) {
			if Fair(p.cores, p.l, p.start, x) {
				t.Errorf("Fair(%d, %v, %d, %v): true", p.cores, p.l, p.start, x)
			}
		}
	}
	is(t, "Fair", Fair(4, claims(1, 4, 3, 4), 0, []int{2, 2}), false)
	is(t, "Fair", Fair(4, claims(1, 4, 3, 4), 0, []int{3, 1}), false)
	is(t, "Fair at the ends", Fair(4, claims(1, 4, 3, 4), 0, []int{lowest, highest}), false)
	// The same numbers, as they are fair from another start.
	is(t, "Fair from 1", Fair(4, many(3, 1, 9), 1, []int{1, 2, 1}), true)
	is(t, "Fair from 2", Fair(4, many(3, 1, 9), 2, []int{1, 2, 1}), false)
	// None has anything, and that is fair just if there are no cores.
	is(t, "Fair of 0 cores", Fair(0, many(3, 1, 9), 1, []int{0, 0, 0}), true)
	is(t, "Fair of 1 core", Fair(1, many(3, 1, 9), 1, []int{0, 0, 0}), false)
}

// P8.2, P1
func TestFairOfNone(t *testing.T) {
	l := claims(1, 4, 3, 4)
	for _, cores := range []int{-1, 65, lowest, highest} {
		for _, x := range [][]int{nil, {}, {0, 0}, {1, 3}, {4, 4}, {0}} {
			is(t, "Fair of bad cores", Fair(cores, l, 0, x), false)
		}
		// Divide tells nothing, and nothing is what there is.
		is(t, "Fair of bad cores and no claims", Fair(cores, nil, 0, nil), true)
		is(t, "Fair of bad cores and a number", Fair(cores, nil, 0, []int{0}), false)
	}
	for _, l := range badLists() {
		for _, x := range [][]int{nil, {}, all(len(l), 0), all(len(l), 1), all(len(l), 4)} {
			is(t, "Fair of bad claims", Fair(4, l, 0, x), false)
			is(t, "Fair of bad claims", Fair(0, l, 0, x), false)
		}
	}
}

// R3, R4: what is handed in, and the room behind it, stays as it was, whatever
// is done with the answer; and the same is told again.
func TestMemory(t *testing.T) {
	l, x := claims(1, 4, 3, 4, 7, 7, 7, 7), []int{0, 1, 9, 9}
	keptL, keptX := slices.Clone(l), slices.Clone(x)
	unchanged := func(what string) {
		t.Helper()
		if !slices.Equal(l, keptL) || !slices.Equal(x, keptX) {
			t.Errorf("%s changed what it was given: %v, %v", what, l, x)
		}
	}
	scrape := func(answer []int) {
		answer = answer[:cap(answer)]
		for i := range answer {
			answer[i] = 77
		}
	}
	for range 2 {
		divided := Divide(4, l[:2], 0)
		are(t, "Divide", divided, []int{1, 3})
		scrape(divided)
		unchanged("Divide")
		hungry := Hungry(l[:2], x[:2])
		are(t, "Hungry", hungry, []int{0, 1})
		scrape(hungry)
		unchanged("Hungry")
		is(t, "Next", Next(l[:2], x[:2], 1), 0)
		unchanged("Next")
		is(t, "Level", Level(l[:2], x[:2], 0, 1), -1)
		unchanged("Level")
		is(t, "Total", Total(x[:2]), 1)
		unchanged("Total")
		is(t, "Fair", Fair(1, l[:2], 1, x[:2]), true)
		unchanged("Fair")
		is(t, "Good", Good(l[:2]), true)
		unchanged("Good")
	}
	first, second := Divide(4, l[:2], 0), Divide(4, l[:2], 0)
	scrape(first)
	are(t, "Divide beside another answer", second, []int{1, 3})
}
