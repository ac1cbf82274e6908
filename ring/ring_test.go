package ring

import (
	"math"
	"slices"
	"testing"

	"wherry/api"
)

const (
	least = math.MinInt
	most  = math.MaxInt
)

// filled is a Ring for bound numbers, with these pushed.
func filled(t *testing.T, bound int, l ...int) *Ring {
	t.Helper()
	r := New(bound)
	if r == nil {
		t.Fatalf("New(%d): nil", bound)
	}
	for _, x := range l {
		if err := r.Push(x); err != api.OK {
			t.Fatalf("Push(%d): %v", x, err)
		}
	}
	return r
}

// turned is such a Ring whose first number stands turn slots on.
func turned(t *testing.T, turn, bound int, l ...int) *Ring {
	t.Helper()
	r := filled(t, bound)
	for range turn {
		r.Push(-1)
		r.Pop()
	}
	for _, x := range l {
		if err := r.Push(x); err != api.OK {
			t.Fatalf("Push(%d): %v", x, err)
		}
	}
	return r
}

// has holds all that r tells of its numbers against l.
func has(t *testing.T, r *Ring, bound int, l ...int) {
	t.Helper()
	if got := slices.Collect(r.All()); !slices.Equal(got, l) {
		t.Errorf("All: %v, want %v", got, l)
	}
	if r.Len() != len(l) || r.Room() != bound-len(l) {
		t.Errorf("Len %d, Room %d, want %d, %d", r.Len(), r.Room(), len(l), bound-len(l))
	}
	for i, want := range l {
		if got, ok := r.At(i); got != want || !ok {
			t.Errorf("At(%d): %d, %v, want %d, true", i, got, ok, want)
		}
	}
}

// P3.1
func TestNew(t *testing.T) {
	for _, bound := range []int{least, least + 1, -4096, -1, 0, 4097, 4098, 8192, most - 1, most} {
		if r := New(bound); r != nil {
			t.Errorf("New(%d): one with room for %d, want nil", bound, r.Room())
		}
	}
	for _, bound := range []int{1, 2, 3, 4095, 4096} {
		has(t, filled(t, bound), bound)
	}
}

// P3.1
func TestNewTellsOneOfItsOwn(t *testing.T) {
	a, b := filled(t, 2, 1), filled(t, 2, 2, 3)
	has(t, a, 2, 1)
	has(t, b, 2, 2, 3)
}

// P3.1, example 1
func TestPush(t *testing.T) {
	r := filled(t, 2, 1, 2)
	if err := r.Push(3); err != api.ErrFull {
		t.Errorf("Push of a full one: %v", err)
	}
	has(t, r, 2, 1, 2)
	if x, ok := r.Pop(); x != 1 || !ok {
		t.Errorf("Pop: %d, %v", x, ok)
	}
	if err := r.Push(4); err != api.OK {
		t.Errorf("Push behind Pop: %v", err)
	}
	has(t, r, 2, 2, 4)
}

// P3.1
func TestFront(t *testing.T) {
	r := filled(t, 3)
	for _, x := range []int{5, 6, 7} {
		if err := r.Front(x); err != api.OK {
			t.Errorf("Front(%d): %v", x, err)
		}
	}
	has(t, r, 3, 7, 6, 5)
	if err := r.Front(8); err != api.ErrFull {
		t.Errorf("Front of a full one: %v", err)
	}
	has(t, r, 3, 7, 6, 5)
	r.Back()
	r.Front(9)
	has(t, r, 3, 9, 7, 6)
}

// P3.1
func TestOneSlot(t *testing.T) {
	r := filled(t, 1)
	for i, put := range []func(int) api.Errno{r.Push, r.Front, r.Push, r.Front} {
		for _, take := range []func() (int, bool){r.Pop, r.Back} {
			if err := put(i); err != api.OK {
				t.Errorf("put: %v", err)
			}
			has(t, r, 1, i)
			if r.Push(8) != api.ErrFull || r.Front(9) != api.ErrFull {
				t.Error("a full one took another number")
			}
			if x, ok := take(); x != i || !ok {
				t.Errorf("take: %d, %v, want %d", x, ok, i)
			}
			has(t, r, 1)
		}
	}
}

// P3.1
func TestPopAndBackOfAnEmptyOne(t *testing.T) {
	// Numbers that were there before must not come beside a false.
	r := filled(t, 3, 7, 8, 9)
	for range 3 {
		r.Pop()
	}
	for range 3 {
		if x, ok := r.Pop(); x != 0 || ok {
			t.Errorf("Pop: %d, %v", x, ok)
		}
		if x, ok := r.Back(); x != 0 || ok {
			t.Errorf("Back: %d, %v", x, ok)
		}
	}
	has(t, r, 3)
	r.Push(1)
	r.Front(0)
	has(t, r, 3, 0, 1)
}

// P3.1, P3.2
func TestPopGoesRound(t *testing.T) {
	for _, bound := range []int{1, 2, 3, 5, 64, 4096} {
		r := filled(t, bound)
		next, want := 0, 0
		for next < 3*bound+2 {
			for range max(1, bound/2) {
				if err := r.Push(next); err != api.OK {
					t.Fatalf("Push(%d) of %d: %v", next, bound, err)
				}
				next++
			}
			for range max(1, bound/2) {
				if x, ok := r.Pop(); x != want || !ok {
					t.Fatalf("Pop of %d: %d, %v, want %d", bound, x, ok, want)
				}
				want++
			}
		}
		has(t, r, bound)
	}
}

// P3.1, P3.2
func TestBackGoesRound(t *testing.T) {
	for _, bound := range []int{1, 2, 3, 5, 64, 4096} {
		r := filled(t, bound)
		for i := range 3*bound + 2 {
			if err := r.Front(i); err != api.OK {
				t.Fatalf("Front(%d) of %d: %v", i, bound, err)
			}
			if i < bound-1 {
				continue
			}
			if x, ok := r.Back(); x != i-bound+1 || !ok {
				t.Fatalf("Back of %d: %d, %v, want %d", bound, x, ok, i-bound+1)
			}
		}
	}
}

// P3.1
func TestAt(t *testing.T) {
	for turn := range 9 {
		r := turned(t, turn, 4, 10, 20, 30)
		for _, c := range []struct {
			i, want int
			ok      bool
		}{
			{0, 10, true}, {1, 20, true}, {2, 30, true},
			{3, 0, false}, {4, 0, false}, {5, 0, false}, {most - 1, 0, false}, {most, 0, false},
			{-1, 0, false}, {-4, 0, false}, {least, 0, false}, {least + 1, 0, false},
		} {
			if got, ok := r.At(c.i); got != c.want || ok != c.ok {
				t.Errorf("At(%d) behind %d: %d, %v, want %d, %v", c.i, turn, got, ok, c.want, c.ok)
			}
		}
		has(t, r, 4, 10, 20, 30)
	}
	if x, ok := filled(t, 2).At(0); x != 0 || ok {
		t.Errorf("At(0) of an empty one: %d, %v", x, ok)
	}
	if x, ok := filled(t, 2, 1, 2).At(2); x != 0 || ok {
		t.Errorf("At(2) of a full one: %d, %v", x, ok)
	}
}

// P3.1
func TestFind(t *testing.T) {
	for turn := range 9 {
		r := turned(t, turn, 5, 4, 0, least, 4)
		for _, c := range []struct{ x, want int }{
			{4, 0}, {0, 1}, {least, 2}, {most, -1}, {-1, -1}, {1, -1},
		} {
			if got := r.Find(c.x); got != c.want {
				t.Errorf("Find(%d) behind %d: %d, want %d", c.x, turn, got, c.want)
			}
		}
		has(t, r, 5, 4, 0, least, 4)
	}
	// Slots that hold no number hold no 0 either, and none that has gone.
	r := filled(t, 3, 7)
	r.Pop()
	for _, x := range []int{0, 7} {
		if got := r.Find(x); got != -1 {
			t.Errorf("Find(%d) of an empty one: %d", x, got)
		}
	}
}

// P3.1
func TestRemove(t *testing.T) {
	for _, c := range []struct {
		l    []int
		x    int
		ok   bool
		want []int
	}{
		{nil, 0, false, nil},
		{[]int{1}, 0, false, []int{1}},
		{[]int{1}, 1, true, nil},
		{[]int{1, 2, 3}, 1, true, []int{2, 3}},
		{[]int{1, 2, 3}, 2, true, []int{1, 3}},
		{[]int{1, 2, 3}, 3, true, []int{1, 2}},
		{[]int{1, 2, 3, 4}, 4, true, []int{1, 2, 3}},
		{[]int{1, 2, 3, 4}, 2, true, []int{1, 3, 4}},
		{[]int{1, 2, 3, 4}, 5, false, []int{1, 2, 3, 4}},
		{[]int{5, 2, 5, 3}, 5, true, []int{2, 5, 3}},
		{[]int{2, 5, 5, 3}, 5, true, []int{2, 5, 3}},
		{[]int{5, 5, 5, 5}, 5, true, []int{5, 5, 5}},
		{[]int{0, 0}, 0, true, []int{0}},
		{[]int{least, most}, most, true, []int{least}},
	} {
		for turn := range 9 {
			r := turned(t, turn, 4, c.l...)
			if got := r.Remove(c.x); got != c.ok {
				t.Errorf("Remove(%d) of %v behind %d: %v", c.x, c.l, turn, got)
			}
			has(t, r, 4, c.want...)
		}
	}
}

// P3.1
func TestLenAndRoom(t *testing.T) {
	for _, bound := range []int{1, 2, 4096} {
		r := filled(t, bound)
		for n := range bound {
			if r.Len() != n || r.Room() != bound-n {
				t.Fatalf("of %d with %d: Len %d, Room %d", bound, n, r.Len(), r.Room())
			}
			r.Push(n)
		}
		for range 2 {
			if r.Len() != bound || r.Room() != 0 {
				t.Fatalf("of a full one of %d: Len %d, Room %d", bound, r.Len(), r.Room())
			}
			r.Push(-1)
			r.Front(-1)
		}
	}
}

// P3.1
func TestAllIsLeftEarlyAndNested(t *testing.T) {
	r := turned(t, 2, 3, 1, 2, 3)
	all := r.All()
	for stop := 1; stop <= 3; stop++ {
		var seen []int
		for x := range all {
			seen = append(seen, x)
			if x == stop {
				break
			}
		}
		if want := []int{1, 2, 3}[:stop]; !slices.Equal(seen, want) {
			t.Errorf("left at %d: %v", stop, seen)
		}
	}
	var pairs []int
	for a := range all {
		for b := range all {
			pairs = append(pairs, 10*a+b)
		}
	}
	if want := []int{11, 12, 13, 21, 22, 23, 31, 32, 33}; !slices.Equal(pairs, want) {
		t.Errorf("nested: %v", pairs)
	}
	for x := range filled(t, 3).All() {
		t.Errorf("All of an empty one: %d", x)
	}
}

// P3.1: they are told as they are when they are gone over, not as they were
// when All was called.
func TestAllAfterChanges(t *testing.T) {
	r := filled(t, 3)
	all := r.All()
	for _, c := range []struct {
		name string
		do   func()
		want []int
	}{
		{"nothing", func() {}, nil},
		{"Push", func() { r.Push(1) }, []int{1}},
		{"Front", func() { r.Front(2) }, []int{2, 1}},
		{"Push again", func() { r.Push(3) }, []int{2, 1, 3}},
		{"Push of a full one", func() { r.Push(4) }, []int{2, 1, 3}},
		{"Remove", func() { r.Remove(1) }, []int{2, 3}},
		{"Pop", func() { r.Pop() }, []int{3}},
		{"Back", func() { r.Back() }, nil},
	} {
		c.do()
		for range 2 {
			if got := slices.Collect(all); !slices.Equal(got, c.want) {
				t.Errorf("behind %s: %v, want %v", c.name, got, c.want)
			}
		}
	}
}

// P3.1: what is done meanwhile is told the next time.
func TestAllWhileItChanges(t *testing.T) {
	r := turned(t, 2, 4, 1, 2, 3)
	all := r.All()
	var seen []int
	for x := range all {
		seen = append(seen, x)
		r.Pop()
		r.Push(x + 10)
	}
	if want := []int{1, 2, 3}; !slices.Equal(seen, want) {
		t.Errorf("gone over: %v", seen)
	}
	if got, want := slices.Collect(all), []int{11, 12, 13}; !slices.Equal(got, want) {
		t.Errorf("gone over again: %v, want %v", got, want)
	}
}

// P3.1
func TestCopy(t *testing.T) {
	for turn := range 9 {
		for _, l := range [][]int{nil, {1}, {1, 2}, {1, 2, 3}, {1, 2, 3, 4}} {
			r := turned(t, turn, 4, l...)
			c := r.Copy()
			if c == nil || c == r {
				t.Fatalf("Copy of %v: no other one", l)
			}
			has(t, c, 4, l...)
			has(t, r, 4, l...)
		}
	}
}

// P3.1
func TestCopyGoesItsOwnWay(t *testing.T) {
	for turn := range 9 {
		r := turned(t, turn, 4, 1, 2, 3)
		c := r.Copy()
		r.Pop()
		r.Push(5)
		r.Push(6)
		has(t, c, 4, 1, 2, 3)
		has(t, r, 4, 2, 3, 5, 6)
		c.Remove(2)
		c.Front(8)
		c.Front(9)
		has(t, c, 4, 9, 8, 1, 3)
		has(t, r, 4, 2, 3, 5, 6)
		if c.Push(7) != api.ErrFull || r.Push(7) != api.ErrFull {
			t.Error("a full one took another number")
		}
	}
	r := filled(t, 2)
	c := r.Copy()
	c.Push(1)
	has(t, r, 2)
	r.Push(2)
	has(t, c, 2, 1)
}

// P3.1, P1, R5
func TestOfNoneMade(t *testing.T) {
	for name, r := range map[string]*Ring{"nil": nil, "zero": {}} {
		for _, x := range []int{least, -1, 0, 1, most} {
			if err := r.Push(x); err != api.ErrMade {
				t.Errorf("%s: Push: %v", name, err)
			}
			if err := r.Front(x); err != api.ErrMade {
				t.Errorf("%s: Front: %v", name, err)
			}
			if y, ok := r.Pop(); y != 0 || ok {
				t.Errorf("%s: Pop: %d, %v", name, y, ok)
			}
			if y, ok := r.Back(); y != 0 || ok {
				t.Errorf("%s: Back: %d, %v", name, y, ok)
			}
			if y, ok := r.At(x); y != 0 || ok {
				t.Errorf("%s: At(%d): %d, %v", name, x, y, ok)
			}
			if i := r.Find(x); i != -1 {
				t.Errorf("%s: Find(%d): %d", name, x, i)
			}
			if r.Remove(x) {
				t.Errorf("%s: Remove(%d): true", name, x)
			}
		}
		if r.Len() != 0 || r.Room() != 0 {
			t.Errorf("%s: Len %d, Room %d", name, r.Len(), r.Room())
		}
		for x := range r.All() {
			t.Errorf("%s: All tells %d", name, x)
		}
		if r.Copy() != nil {
			t.Errorf("%s: Copy is not nil", name)
		}
	}
}
