package moves

import (
	"math"
	"slices"
	"testing"
)

const (
	lowest  = math.MinInt
	highest = math.MaxInt
)

// all is as many numbers n as that.
func all(count, n int) []int {
	return slices.Repeat([]int{n}, count)
}

// with is l with n in place i.
func with(l []int, i, n int) []int {
	l = slices.Clone(l)
	l[i] = n
	return l
}

// rising are the numbers from first to last.
func rising(first, last int) []int {
	var l []int
	for n := first; n <= last; n++ {
		l = append(l, n)
	}
	return l
}

// moves are those of the cores, froms and tos, which stand by turns.
func moves(numbers ...int) []Move {
	var l []Move
	for three := range slices.Chunk(numbers, 3) {
		l = append(l, Move{three[0], three[1], three[2]})
	}
	return l
}

func is[T comparable](t *testing.T, what string, got, want T) {
	t.Helper()
	if got != want {
		t.Errorf("%s: %v, want %v", what, got, want)
	}
}

func are[T comparable](t *testing.T, what string, got, want []T) {
	t.Helper()
	if !slices.Equal(got, want) {
		t.Errorf("%s: %v, want %v", what, got, want)
	}
}

type owned struct {
	owners []int
	n      int
}

// badOwners are such that are not Good.
func badOwners() []owned {
	l := []owned{
		{nil, -1}, {nil, 65}, {nil, lowest}, {nil, highest},
		{[]int{}, -1}, {[]int{}, 65},
		{all(1, 0), -1}, {all(1, 0), 65}, {all(1, -1), -1}, {all(1, 65), 65},
		{all(65, 0), 0}, {all(65, 0), 64}, {all(65, 1), 1}, {all(1000, 3), 4},
		{all(65, 0), -1}, {all(65, 0), 65},
	}
	for _, n := range []int{0, 1, 2, 63, 64} {
		for _, bad := range []int{-1, n + 1, lowest, highest} {
			l = append(l,
				owned{all(1, bad), n},
				owned{with(all(3, 0), 0, bad), n},
				owned{with(all(3, n), 1, bad), n},
				owned{with(all(64, n), 63, bad), n},
			)
		}
	}
	return l
}

// P9.1
func TestGood(t *testing.T) {
	for _, c := range []owned{
		{nil, 0}, {[]int{}, 0}, {nil, 1}, {nil, 64},
		{all(1, 0), 0}, {all(64, 0), 0}, {all(64, 0), 64},
		{all(1, 1), 1}, {all(1, 1), 2}, {all(1, 64), 64}, {all(63, 63), 63}, {all(64, 64), 64},
		{rising(0, 63), 63}, {rising(1, 64), 64},
		{[]int{1, 1, 1, 0}, 2}, {[]int{2, 0, 1}, 2},
	} {
		if !Good(c.owners, c.n) {
			t.Errorf("Good(%v, %d): false", c.owners, c.n)
		}
	}
	for _, c := range badOwners() {
		if Good(c.owners, c.n) {
			t.Errorf("Good(%v, %d): true", c.owners, c.n)
		}
	}
}

// P9.1
func TestCount(t *testing.T) {
	for _, c := range []struct {
		owners []int
		n      int
		want   []int
	}{
		{nil, 0, nil},
		{all(1, 0), 0, nil},
		{all(64, 0), 0, nil},
		{nil, 1, []int{0}},
		{nil, 64, all(64, 0)},
		{all(3, 0), 2, []int{0, 0}},
		{[]int{1, 1, 1, 0}, 1, []int{3}},
		{[]int{1, 1, 1, 0}, 2, []int{3, 0}},
		{[]int{2, 0, 1, 2, 3, 2}, 4, []int{1, 3, 1, 0}},
		{all(64, 1), 1, []int{64}},
		{all(64, 64), 64, with(all(64, 0), 63, 64)},
		{rising(1, 64), 64, all(64, 1)},
		{rising(0, 63), 64, with(all(64, 1), 63, 0)},
	} {
		are(t, "Count", Count(c.owners, c.n), c.want)
	}
	for _, c := range badOwners() {
		are(t, "Count of bad ones", Count(c.owners, c.n), nil)
	}
}

type asked struct {
	owners, target []int
}

// badAsked are such as Need tells nothing of.
func badAsked() []asked {
	l := []asked{
		{nil, all(65, 0)}, {all(3, 1), all(65, 0)}, {all(3, 1), all(1000, 0)},
		{all(1, 1), nil}, {all(1, 1), []int{}}, {all(1, -1), nil},
		{all(3, 3), all(2, 0)}, {all(65, 0), nil}, {all(65, 1), all(1, 1)},
	}
	for _, c := range badOwners() {
		if c.n >= 0 && c.n <= 64 {
			l = append(l, asked{c.owners, all(c.n, 0)})
		}
	}
	for _, bad := range []int{-1, -64, lowest} {
		l = append(l,
			asked{nil, []int{bad}},
			asked{all(4, 1), []int{bad}},
			asked{all(4, 1), []int{bad, 4}},
			asked{all(4, 1), []int{2, bad}},
			asked{all(4, 1), []int{2, bad, 2}},
			asked{all(4, 1), []int{highest, bad}},
			asked{all(64, 0), with(all(64, 1), 63, bad)},
			asked{all(64, 0), with(all(64, 1), 0, bad)},
		)
	}
	return l
}

// P9.1
func TestNeed(t *testing.T) {
	for _, c := range []struct {
		owners, target, extra, lack []int
	}{
		{nil, nil, nil, nil},
		{all(4, 0), nil, nil, nil},
		{nil, all(2, 0), []int{0, 0}, []int{0, 0}},
		{nil, []int{1, 2}, []int{0, 0}, []int{1, 2}},
		{[]int{1, 1, 1, 0}, []int{1, 2}, []int{2, 0}, []int{0, 2}},
		{[]int{1, 1, 1, 0}, []int{3, 0}, []int{0, 0}, []int{0, 0}},
		{[]int{2, 2, 1, 3}, []int{1, 0, 2}, []int{0, 2, 0}, []int{0, 0, 1}},
		{[]int{2, 2, 1, 3}, []int{0, 0, 0}, []int{1, 2, 1}, []int{0, 0, 0}},
		{all(64, 1), []int{0}, []int{64}, []int{0}},
		{all(64, 0), []int{64}, []int{0}, []int{64}},
		// It is not asked whether there are so many.
		{all(1, 1), []int{2, 64}, []int{0, 0}, []int{1, 64}},
		{nil, []int{highest}, []int{0}, []int{highest}},
		{all(3, 1), []int{highest, highest}, []int{0, 0}, []int{highest - 3, highest}},
		{all(64, 64), all(64, 0), with(all(64, 0), 63, 64), all(64, 0)},
		{rising(1, 64), all(64, 1), all(64, 0), all(64, 0)},
	} {
		extra, lack := Need(c.owners, c.target)
		are(t, "Need, too many", extra, c.extra)
		are(t, "Need, lacked", lack, c.lack)
	}
	for _, c := range badAsked() {
		extra, lack := Need(c.owners, c.target)
		are(t, "Need of bad ones, too many", extra, nil)
		are(t, "Need of bad ones, lacked", lack, nil)
	}
}

// P9.2
func TestPlan(t *testing.T) {
	for _, c := range []struct {
		owners, target []int
		want           []Move
	}{
		{[]int{1, 1, 1, 0}, []int{1, 2}, moves(3, 0, 2, 2, 1, 2, 1, 1, 0)},
		// No core, no space, or nothing to do.
		{nil, nil, nil},
		{[]int{}, []int{}, nil},
		{nil, all(64, 0), nil},
		{all(64, 0), nil, nil},
		{all(1, 1), []int{1}, nil},
		{[]int{1, 1, 1, 0}, []int{3}, nil},
		{[]int{1, 1, 1, 0}, []int{3, 0}, nil},
		{[]int{2, 1, 0, 2}, []int{1, 2}, nil},
		{rising(1, 64), all(64, 1), nil},
		// Only free cores: the least go, and to the least spaces.
		{all(1, 0), []int{1}, moves(0, 0, 1)},
		{all(4, 0), []int{1, 2}, moves(0, 0, 1, 1, 0, 2, 2, 0, 2)},
		{all(4, 0), []int{0, 0, 1}, moves(0, 0, 3)},
		{all(3, 0), []int{0, 3}, moves(0, 0, 2, 1, 0, 2, 2, 0, 2)},
		{[]int{1, 0, 1, 0, 0}, []int{3, 1}, moves(1, 0, 1, 3, 0, 2)},
		// Too many alone: the greatest go, the greatest first, free ones stay.
		{[]int{1}, []int{0}, moves(0, 1, 0)},
		{[]int{1, 1, 1}, []int{1}, moves(2, 1, 0, 1, 1, 0)},
		{[]int{0, 1, 0, 1, 0}, []int{1}, moves(3, 1, 0)},
		{[]int{2, 1, 2, 1, 2, 1}, []int{1, 2}, moves(5, 1, 0, 3, 1, 0, 4, 2, 0)},
		{[]int{2, 1, 0}, []int{0, 0}, moves(1, 1, 0, 0, 2, 0)},
		// From one to another, by spaces on both sides.
		{[]int{1, 2}, []int{2, 0}, moves(1, 2, 1)},
		{[]int{1, 2}, []int{0, 2}, moves(0, 1, 2)},
		{[]int{1, 1, 2, 2}, []int{0, 0, 2, 2}, moves(1, 1, 3, 0, 1, 3, 3, 2, 4, 2, 2, 4)},
		{[]int{4, 4, 3, 3}, []int{1, 3, 0, 0}, moves(3, 3, 1, 2, 3, 2, 1, 4, 2, 0, 4, 2)},
		{[]int{2, 2, 2, 3}, []int{1, 1, 2}, moves(2, 2, 1, 1, 2, 3)},
		// Free ones first, then those that others have too many, then to none.
		{[]int{1, 1, 1, 1, 0, 0}, []int{1, 3}, moves(4, 0, 2, 5, 0, 2, 3, 1, 2, 2, 1, 0, 1, 1, 0)},
		{[]int{0, 1, 1, 0}, []int{1, 1}, moves(0, 0, 2, 2, 1, 0)},
		{[]int{3, 0, 1, 3, 1}, []int{1, 2, 0}, moves(1, 0, 2, 4, 1, 2, 3, 3, 0, 0, 3, 0)},
		// As many in all as there are.
		{[]int{1, 0}, []int{1, 1}, moves(1, 0, 2)},
		{[]int{2, 2}, []int{1, 1}, moves(1, 2, 1)},
	} {
		are(t, "Plan", Plan(c.owners, c.target), c.want)
	}
}

// P9.2
func TestPlanOfManyCores(t *testing.T) {
	var rise, fall, freed []Move
	for core := range 64 {
		rise = append(rise, Move{core, 0, core + 1})
		fall = append(fall, Move{63 - core, 1, 64})
		freed = append(freed, Move{63 - core, 7, 0})
	}
	are(t, "Plan", Plan(all(64, 0), all(64, 1)), rise)
	are(t, "Plan", Plan(all(64, 1), with(all(64, 0), 63, 64)), fall)
	are(t, "Plan", Plan(all(64, 7), all(7, 0)), freed)
}

// P9.2: what may not be has no plan.
func TestPlanOfNothing(t *testing.T) {
	for _, c := range append(badAsked(),
		asked{nil, []int{1}},
		asked{all(1, 0), []int{2}},
		asked{all(1, 1), []int{2}},
		asked{all(1, 1), []int{1, 1}},
		asked{all(4, 1), []int{1, 4}},
		asked{all(4, 1), []int{5}},
		asked{[]int{1, 0, 2}, []int{4, 0}},
		asked{[]int{1, 0, 2}, []int{2, 2}},
		asked{all(64, 0), []int{65}},
		asked{all(64, 0), with(all(64, 1), 63, 2)},
		asked{all(63, 0), all(64, 1)},
		asked{all(4, 1), []int{highest}},
		asked{all(4, 1), []int{0, highest}},
		// Their sums would wrap, and be few or less than none.
		asked{all(4, 1), []int{highest, highest}},
		asked{all(4, 1), []int{highest, highest, 2}},
		asked{all(4, 1), []int{highest, highest, 4}},
		asked{all(4, 1), []int{1 << 62, 1 << 62, 1 << 62, 1 << 62}},
		asked{all(4, 1), []int{1, highest, 0}},
	) {
		if got := Plan(c.owners, c.target); len(got) != 0 {
			t.Errorf("Plan(%v, %v): %v", c.owners, c.target, got)
		}
	}
}

// P9.2
func TestApply(t *testing.T) {
	for _, c := range []struct {
		owners []int
		l      []Move
		want   []int
	}{
		{nil, nil, nil},
		{[]int{}, []Move{}, nil},
		{[]int{1, 0, 2}, nil, []int{1, 0, 2}},
		{[]int{1, 0, 2}, []Move{}, []int{1, 0, 2}},
		{[]int{1, 1, 1, 0}, moves(3, 0, 2, 2, 1, 2, 1, 1, 0), []int{1, 0, 2, 2}},
		{[]int{1, 0, 2}, moves(0, 1, 0, 1, 0, 2, 2, 2, 1), []int{0, 2, 1}},
		{[]int{1, 0, 2}, moves(0, 1, 1), []int{1, 0, 2}},
		// A core that there is not.
		{nil, moves(0, 0, 1), nil},
		{[]int{1, 0, 2}, moves(-1, 1, 2, 3, 2, 1, lowest, 0, 1, highest, 0, 1), []int{1, 0, 2}},
		{[]int{1, 0, 2}, moves(3, 0, 1, 2, 2, 1), []int{1, 0, 1}},
		// One that From has not.
		{[]int{1, 0, 2}, moves(0, 0, 2), []int{1, 0, 2}},
		{[]int{1, 0, 2}, moves(0, 2, 3, 1, 1, 3, 2, 0, 3), []int{1, 0, 2}},
		{[]int{1, 0, 2}, moves(0, lowest, 3, 1, -1, 3, 2, highest, 3), []int{1, 0, 2}},
		{[]int{1, 0, 2}, moves(0, 2, 3, 2, 2, 3), []int{1, 0, 3}},
		// One core more than once: From is who has it by then.
		{[]int{1, 0, 2}, moves(0, 1, 2, 0, 2, 3), []int{3, 0, 2}},
		{[]int{1, 0, 2}, moves(0, 1, 2, 0, 1, 3), []int{2, 0, 2}},
		{[]int{1, 0, 2}, moves(0, 2, 3, 0, 1, 2), []int{2, 0, 2}},
		{[]int{1, 0, 2}, moves(0, 1, 0, 0, 0, 1, 0, 1, 5), []int{5, 0, 2}},
		// What owners and moves are is not asked.
		{[]int{-1, 99}, moves(0, -1, highest, 1, 99, lowest), []int{highest, lowest}},
		{all(100, 1), moves(99, 1, 2), with(all(100, 1), 99, 2)},
	} {
		are(t, "Apply", Apply(c.owners, c.l), c.want)
	}
}

// R3: nil and empty lists are the same.
func TestNilAndEmpty(t *testing.T) {
	for _, l := range [][]int{nil, {}} {
		is(t, "Good", Good(l, 0), true)
		is(t, "Count", len(Count(l, 0)), 0)
		for _, target := range [][]int{nil, {}} {
			extra, lack := Need(l, target)
			is(t, "Need", len(extra)+len(lack), 0)
			is(t, "Plan", len(Plan(l, target)), 0)
		}
		is(t, "Apply", len(Apply(l, nil))+len(Apply(l, []Move{})), 0)
	}
}

// R3, R4: what is handed in, and the room behind it, stays as it was, whatever
// is done with the answer; and the same is told again.
func TestMemory(t *testing.T) {
	owners, target, l := []int{1, 1, 1, 0, 9, 9, 9}, []int{1, 2, 9, 9}, moves(3, 0, 2, 2, 1, 2, 9, 9, 9, 9, 9, 9)
	keptOwners, keptTarget, keptMoves := slices.Clone(owners), slices.Clone(target), slices.Clone(l)
	unchanged := func(what string) {
		t.Helper()
		if !slices.Equal(owners, keptOwners) || !slices.Equal(target, keptTarget) || !slices.Equal(l, keptMoves) {
			t.Errorf("%s changed what it was given: %v, %v, %v", what, owners, target, l)
		}
	}
	for range 2 {
		good := Good(owners[:4], 2)
		is(t, "Good", good, true)
		unchanged("Good")
		count := Count(owners[:4], 2)
		are(t, "Count", count, []int{3, 0})
		scrape(count, 77)
		unchanged("Count")
		plan := Plan(owners[:4], target[:2])
		are(t, "Plan", plan, moves(3, 0, 2, 2, 1, 2, 1, 1, 0))
		scrape(plan, Move{7, 7, 7})
		unchanged("Plan")
		for _, count := range []int{0, 2} {
			applied := Apply(owners[:4], l[:count])
			scrape(applied, 77)
			unchanged("Apply")
		}
		scrape(Apply(owners[:0], nil), 77)
		unchanged("Apply")
		extra, lack := Need(owners[:4], target[:2])
		unchanged("Need")
		are(t, "Need", extra, []int{2, 0})
		scrape(extra, 77)
		are(t, "Need", lack, []int{0, 2})
		extra, lack = Need(owners[:4], target[:2])
		scrape(lack, 77)
		are(t, "Need", extra, []int{2, 0})
		unchanged("Need")
	}
}

// scrape lays x over all of an answer, and over its spare room.
func scrape[T any](answer []T, x T) {
	answer = answer[:cap(answer)]
	for i := range answer {
		answer[i] = x
	}
}
