package share

import (
	"math/big"
	"math/rand"
	"slices"
	"testing"

	"wherry/api"
)

// The tests of this file hold partings against what follows of them (P8.3): of
// few cores over all numbers that may be, so that there is just one such; of
// many over drawn claims, the same ones each time. Levels are fractions of any
// length here. A call that panicked there would fail them too (P1).

// part is what one has for its weight.
func part(n int, c api.Claim) *big.Rat {
	return big.NewRat(int64(n), int64(c.Weight))
}

// turn is how far i stands behind start, round.
func turn(i, start, count int) int {
	return ((i-start%count)%count + count) % count
}

// allGiven tells whether all cores are given, or all demands are met, and nobody
// has more than it demands, or less than none.
func allGiven(cores int, l []api.Claim, x []int) bool {
	given, met := 0, true
	for i, n := range x {
		if n < 0 || n > l[i].Demand {
			return false
		}
		given += n
		met = met && n == l[i].Demand
	}
	return given == cores || given < cores && met
}

// deserved tells whether each one that is hungry stands to each other one as
// P8.3 says.
func deserved(l []api.Claim, start int, x []int) bool {
	for i := range l {
		if x[i] == l[i].Demand {
			continue
		}
		for j := range l {
			if i == j {
				continue
			}
			order := part(x[j]-1, l[j]).Cmp(part(x[i], l[i]))
			ahead := turn(j, start, len(l)) < turn(i, start, len(l))
			if order > 0 || order == 0 && !ahead {
				return false
			}
		}
	}
	return true
}

// follows tells whether x is as P8.3 says.
func follows(cores int, l []api.Claim, start int, x []int) bool {
	return len(x) == len(l) && allGiven(cores, l, x) && deserved(l, start, x)
}

// upTo are all lists of numbers from 0 to these.
func upTo(most []int) [][]int {
	lists := [][]int{nil}
	for _, m := range most {
		var longer [][]int
		for _, x := range lists {
			for n := range m + 1 {
				longer = append(longer, append(slices.Clone(x), n))
			}
		}
		lists = longer
	}
	return lists
}

// fewClaims are all lists of so many claims, of few weights and demands.
func fewClaims(count int) [][]api.Claim {
	kinds := claims(1, 0, 1, 1, 1, 3, 2, 0, 2, 1, 2, 3, 3, 0, 3, 1, 3, 3)
	var lists [][]api.Claim
	for _, choice := range upTo(all(count, len(kinds)-1)) {
		var l []api.Claim
		for _, k := range choice {
			l = append(l, kinds[k])
		}
		lists = append(lists, l)
	}
	return lists
}

// onlyOne holds Divide and Fair against all numbers that may be.
func onlyOne(t *testing.T, cores int, l []api.Claim, start int) {
	t.Helper()
	var demands []int
	for _, c := range l {
		demands = append(demands, c.Demand)
	}
	divided := Divide(cores, l, start)
	found := 0
	for _, x := range upTo(demands) {
		want := follows(cores, l, start, x)
		if want {
			found++
		}
		if got := slices.Equal(x, divided); got != want {
			t.Fatalf("Divide(%d, %v, %d): %v, and %v is one: %v", cores, l, start, divided, x, want)
		}
		if got := Fair(cores, l, start, x); got != want {
			t.Fatalf("Fair(%d, %v, %d, %v): %v, want %v", cores, l, start, x, got, want)
		}
	}
	if found != 1 {
		t.Fatalf("%d cores, %v, from %d on: %d partings", cores, l, start, found)
	}
}

// P8.3: there is just one such x, and it is Divide's.
func TestOnlyOneParting(t *testing.T) {
	for count := range 4 {
		for _, l := range fewClaims(count) {
			for cores := range 3*count + 2 {
				for start := range max(count, 1) {
					onlyOne(t, cores, l, start)
				}
			}
		}
	}
}

// drawnClaims are Good, of few weights, so that many have as much, or of any.
func drawnClaims(r *rand.Rand) []api.Claim {
	weights, demands := []int{1, 3, heavy}[r.Intn(3)], []int{2, 8, 64}[r.Intn(3)]
	l := make([]api.Claim, r.Intn(65))
	for i := range l {
		l[i] = api.Claim{Weight: 1 + r.Intn(weights), Demand: r.Intn(demands + 1)}
	}
	return l
}

// drawnNumber is mostly one that a parting may have, and at times at int's ends.
func drawnNumber(r *rand.Rand) int {
	switch r.Intn(40) {
	case 0:
		return lowest + r.Intn(3)
	case 1:
		return highest - r.Intn(3)
	case 2:
		return -r.Intn(5)
	}
	return r.Intn(6)
}

func drawnNumbers(r *rand.Rand, count int) []int {
	x := make([]int, count)
	for i := range x {
		x[i] = drawnNumber(r)
	}
	return x
}

// P8.2, P8.3
func TestDrawnPartings(t *testing.T) {
	r := rand.New(rand.NewSource(8))
	for range 1500 {
		cores, l, start := r.Intn(65), drawnClaims(r), r.Intn(300)-150
		x := Divide(cores, l, start)
		if !follows(cores, l, start, x) {
			t.Fatalf("Divide(%d, %v, %d): %v", cores, l, start, x)
		}
		if !Fair(cores, l, start, x) {
			t.Fatalf("Fair(%d, %v, %d, %v): false", cores, l, start, x)
		}
		if len(x) > 0 {
			x[r.Intn(len(x))]++
			if Fair(cores, l, start, x) {
				t.Fatalf("Fair(%d, %v, %d, %v): true", cores, l, start, x)
			}
		}
	}
}

// P8.2: each core more is one for whom Next told, and for no other.
func TestDrawnPartingsGrow(t *testing.T) {
	r := rand.New(rand.NewSource(9))
	for range 60 {
		l, start := drawnClaims(r), int(r.Uint64())
		x := make([]int, len(l))
		for cores := range 65 {
			if got := Divide(cores, l, start); !slices.Equal(got, x) {
				t.Fatalf("Divide(%d, %v, %d): %v, want %v", cores, l, start, got, x)
			}
			if i := Next(l, x, start); i >= 0 {
				x[i]++
			}
		}
	}
}

// plainNext is Next of Good claims.
func plainNext(l []api.Claim, x []int, start int) int {
	next := -1
	for i := range l {
		if x[i] >= l[i].Demand {
			continue
		}
		if next < 0 {
			next = i
			continue
		}
		order := part(x[i], l[i]).Cmp(part(x[next], l[next]))
		if order < 0 || order == 0 && turn(i, start, len(l)) < turn(next, start, len(l)) {
			next = i
		}
	}
	return next
}

// P8.1
func TestDrawnNumbers(t *testing.T) {
	r := rand.New(rand.NewSource(10))
	for range 4000 {
		l := drawnClaims(r)
		x := drawnNumbers(r, len(l))
		start := r.Intn(300) - 150
		if got, want := Next(l, x, start), plainNext(l, x, start); got != want {
			t.Fatalf("Next(%v, %v, %d): %d, want %d", l, x, start, got, want)
		}
		for range 10 {
			i, j := r.Intn(len(l)+2)-1, r.Intn(len(l)+2)-1
			want := 0
			if min(i, j) >= 0 && max(i, j) < len(l) {
				want = part(x[i], l[i]).Cmp(part(x[j], l[j]))
			}
			if got := Level(l, x, i, j); got != want {
				t.Fatalf("Level(%v, %v, %d, %d): %d, want %d", l, x, i, j, got, want)
			}
		}
	}
}

// P8.1, R6: the sum is right, or is no int, and then 0 is told.
func TestDrawnTotals(t *testing.T) {
	r := rand.New(rand.NewSource(11))
	for range 20000 {
		x := make([]int, r.Intn(8))
		sum := new(big.Int)
		for i := range x {
			x[i] = int(r.Uint64()) >> r.Intn(64)
			sum.Add(sum, big.NewInt(int64(x[i])))
		}
		want := 0
		if sum.IsInt64() {
			want = int(sum.Int64())
		}
		if got := Total(x); got != want {
			t.Fatalf("Total(%v): %d, want %d", x, got, want)
		}
	}
}

// drawnWrong is a number that may be wrong, at any place.
func drawnWrong(r *rand.Rand) int {
	choices := []int{0, 1, -1, 2, 63, 64, 65, heavy, heavy + 1, lowest, highest}
	return choices[r.Intn(len(choices))]
}

// P1: whatever is given, the calls end, and what can't be asked tells nothing.
func TestDrawnWrongs(t *testing.T) {
	r := rand.New(rand.NewSource(12))
	for range 20000 {
		l := make([]api.Claim, r.Intn(5))
		for i := range l {
			l[i] = api.Claim{Weight: drawnWrong(r), Demand: drawnWrong(r)}
		}
		x := make([]int, r.Intn(5))
		for i := range x {
			x[i] = drawnWrong(r)
		}
		cores, start := drawnWrong(r), drawnWrong(r)
		divided, fair := Divide(cores, l, start), Fair(cores, l, start, x)
		next, level := Next(l, x, start), Level(l, x, drawnWrong(r), drawnWrong(r))
		hungry := Hungry(l, x)
		if !Good(l) && (len(divided) > 0 || fair || next != -1 || level != 0) {
			t.Fatalf("%v is not Good: %v, %v, %d, %d", l, divided, fair, next, level)
		}
		if len(x) != len(l) && (fair || next != -1 || level != 0 || len(hungry) > 0) {
			t.Fatalf("%v of %v: %v, %d, %d, %v", x, l, fair, next, level, hungry)
		}
		if (cores < 0 || cores > 64) && len(divided) > 0 {
			t.Fatalf("Divide(%d, %v, %d): %v", cores, l, start, divided)
		}
		Total(x)
	}
}
