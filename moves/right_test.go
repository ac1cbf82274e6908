package moves

import (
	"math/rand"
	"slices"
	"testing"
)

// The tests of this file hold plans against what follows of them (P9.3), and
// against P9.2's words done plainly: of few cores over all owners and targets, of
// many over drawn ones, the same each time. A call that panicked there would
// fail them too (P1).

// lists are all lists of so many numbers from 0 to most.
func lists(count, most int) [][]int {
	all := [][]int{nil}
	for range count {
		var longer [][]int
		for _, l := range all {
			for n := range most + 1 {
				longer = append(longer, append(slices.Clone(l), n))
			}
		}
		all = longer
	}
	return all
}

func sum(l []int) int {
	n := 0
	for _, x := range l {
		n += x
	}
	return n
}

// has is how many cores the space has.
func has(owners []int, space int) int {
	n := 0
	for _, owner := range owners {
		if owner == space {
			n++
		}
	}
	return n
}

// plainPlan is what P9.2 says, of what may be: each core is asked how far on it
// stands of those that go, and each place how far on it stands of all.
func plainPlan(owners, target []int) []Move {
	var cores, spaces []int
	for c, owner := range owners {
		if owner == 0 {
			cores = append(cores, c)
		}
	}
	for i, want := range target {
		var own []int
		for c, owner := range owners {
			if owner == i+1 {
				own = append(own, c)
			}
		}
		for len(own) > want {
			cores = append(cores, own[len(own)-1])
			own = own[:len(own)-1]
		}
		for n := len(own); n < want; n++ {
			spaces = append(spaces, i+1)
		}
	}
	var plan []Move
	for i, c := range cores {
		switch {
		case i < len(spaces):
			plan = append(plan, Move{c, owners[c], spaces[i]})
		case owners[c] != 0:
			plan = append(plan, Move{c, owners[c], 0})
		}
	}
	return plan
}

// needless tells whether some move is of a core that need not move: one of a
// space that would have its target, or less, without that, or a free one to none.
func needless(owners, target []int, plan []Move) bool {
	left := slices.Clone(target)
	for _, m := range plan {
		if m.From == m.To {
			return true
		}
		if m.From > 0 {
			left[m.From-1]++
			if left[m.From-1] > has(owners, m.From) {
				return true
			}
		}
	}
	return false
}

// holds asks P9.3 of a plan, and of Need and Count what they must be of it.
func holds(t *testing.T, owners, target []int) {
	t.Helper()
	plan := Plan(owners, target)
	if want := plainPlan(owners, target); !slices.Equal(plan, want) {
		t.Fatalf("Plan(%v, %v): %v, want %v", owners, target, plan, want)
	}
	moved := Apply(owners, plan)
	if got := Count(moved, len(target)); !slices.Equal(got, target) {
		t.Fatalf("Plan(%v, %v): %v, and behind it %v", owners, target, plan, got)
	}
	seen := make([]int, len(owners))
	for _, m := range plan {
		seen[m.Core]++
		if seen[m.Core] > 1 || owners[m.Core] != m.From || moved[m.Core] != m.To {
			t.Fatalf("Plan(%v, %v): %v, of core %d", owners, target, plan, m.Core)
		}
	}
	if needless(owners, target, plan) {
		t.Fatalf("Plan(%v, %v): %v, a core that need not", owners, target, plan)
	}
	extra, lack := Need(owners, target)
	fromSpaces, toSpaces := ends(plan)
	if fromSpaces != sum(extra) || toSpaces != sum(lack) {
		t.Fatalf("Need(%v, %v): %v, %v, for %v", owners, target, extra, lack, plan)
	}
	for i, want := range target {
		if has(owners, i+1)-extra[i]+lack[i] != want || extra[i]*lack[i] != 0 || extra[i] < 0 || lack[i] < 0 {
			t.Fatalf("Need(%v, %v): %v, %v", owners, target, extra, lack)
		}
	}
	if again := Plan(moved, target); len(again) != 0 {
		t.Fatalf("Plan(%v, %v): %v, behind its plan", moved, target, again)
	}
}

// ends is how many of the moves are from spaces, and how many to some.
func ends(plan []Move) (int, int) {
	from, to := 0, 0
	for _, m := range plan {
		if m.From > 0 {
			from++
		}
		if m.To > 0 {
			to++
		}
	}
	return from, to
}

// P9.1, P9.2, P9.3
func TestAllOfFewCores(t *testing.T) {
	for cores := range 6 {
		for spaces := range 4 {
			for _, owners := range lists(cores, spaces) {
				for _, target := range lists(spaces, cores+1) {
					if sum(target) <= cores {
						holds(t, owners, target)
					} else if plan := Plan(owners, target); len(plan) != 0 {
						t.Fatalf("Plan(%v, %v): %v", owners, target, plan)
					}
				}
			}
		}
	}
}

// drawn are Good owners, and targets of which there are enough cores.
func drawn(r *rand.Rand) ([]int, []int) {
	spaces := []int{r.Intn(4), r.Intn(17), r.Intn(65)}[r.Intn(3)]
	owners, target := make([]int, r.Intn(65)), make([]int, spaces)
	for c := range owners {
		owners[c] = r.Intn(spaces + 1)
	}
	if spaces > 0 {
		for range r.Intn(len(owners) + 1) {
			target[r.Intn(spaces)]++
		}
	}
	return owners, target
}

// P9.1, P9.2, P9.3
func TestDrawnPlans(t *testing.T) {
	r := rand.New(rand.NewSource(9))
	for range 20000 {
		owners, target := drawn(r)
		holds(t, owners, target)
		if len(target) == 0 {
			continue
		}
		target[r.Intn(len(target))] += len(owners) - sum(target)
		holds(t, owners, target)
		target[r.Intn(len(target))]++
		if plan := Plan(owners, target); len(plan) != 0 {
			t.Fatalf("Plan(%v, %v): %v", owners, target, plan)
		}
	}
}

// drawnNumber is mostly one that an owner or a target may be.
func drawnNumber(r *rand.Rand) int {
	switch r.Intn(100) {
	case 0:
		return lowest + r.Intn(3)
	case 1:
		return highest - r.Intn(3)
	case 2:
		return -r.Intn(3)
	}
	return r.Intn(4)
}

func drawnNumbers(r *rand.Rand) []int {
	l := make([]int, []int{r.Intn(5), r.Intn(5), 62 + r.Intn(5)}[r.Intn(3)])
	for i := range l {
		l[i] = drawnNumber(r)
	}
	return l
}

// plainGood is Good's words, each asked by itself.
func plainGood(owners []int, n int) bool {
	isOwner := func(owner int) bool { return slices.Contains(rising(0, n), owner) }
	bad := slices.ContainsFunc(owners, func(owner int) bool { return !isOwner(owner) })
	return !bad && slices.Contains(rising(0, 64), len(owners)) && slices.Contains(rising(0, 64), n)
}

// enoughPlainly tells whether there are so many, of targets none of which is
// below 0.
func enoughPlainly(owners, target []int) bool {
	return len(owners) > 0 && !slices.ContainsFunc(target, func(n int) bool { return n > 64 }) && sum(target) <= len(owners) ||
		len(owners) == 0 && !slices.ContainsFunc(target, func(n int) bool { return n > 0 })
}

// P1, P9.1, P9.2: of any numbers.
func TestDrawnNumbers(t *testing.T) {
	r := rand.New(rand.NewSource(10))
	good := 0
	for range 30000 {
		owners, target := drawnNumbers(r), drawnNumbers(r)
		is(t, "Good", Good(owners, len(target)), plainGood(owners, len(target)))
		can := plainGood(owners, len(target)) && !slices.ContainsFunc(target, func(n int) bool { return n < 0 })
		if extra, lack := Need(owners, target); !can && len(extra)+len(lack) != 0 {
			t.Fatalf("Need(%v, %v): %v, %v", owners, target, extra, lack)
		}
		if can && enoughPlainly(owners, target) {
			good++
			holds(t, owners, target)
		} else if plan := Plan(owners, target); len(plan) != 0 {
			t.Fatalf("Plan(%v, %v): %v", owners, target, plan)
		}
	}
	if good < 1000 {
		t.Errorf("only %d that may be", good)
	}
}

// P9.2: one by one, of any moves.
func TestDrawnMoves(t *testing.T) {
	r := rand.New(rand.NewSource(11))
	for range 20000 {
		owners, l := drawnNumbers(r), make([]Move, r.Intn(12))
		for i := range l {
			l[i] = Move{drawnNumber(r), drawnNumber(r), drawnNumber(r)}
		}
		want := map[int]int{}
		for c, owner := range owners {
			want[c] = owner
		}
		for _, m := range l {
			if owner, there := want[m.Core]; there && owner == m.From {
				want[m.Core] = m.To
			}
		}
		got := Apply(owners, l)
		is(t, "cores", len(got), len(want))
		for c, owner := range got {
			if owner != want[c] {
				t.Fatalf("Apply(%v, %v): %v, want %v", owners, l, got, want)
			}
		}
	}
}
