package slots

import (
	"math"
	"slices"
	"testing"

	"wherry/api"
)

const (
	lowest  = math.MinInt
	highest = math.MaxInt
)

// made is New's answer, which may not be nil here.
func made(t *testing.T, most int) *Slots {
	t.Helper()
	s := New(most)
	if s == nil {
		t.Fatalf("New(%d): nil", most)
	}
	return s
}

// takes asks s for these ids, one by one.
func takes(t *testing.T, s *Slots, want ...int) {
	t.Helper()
	for _, id := range want {
		if got, err := s.Take(); got != id || err != api.OK {
			t.Fatalf("Take: %d, %v, want %d, OK", got, err, id)
		}
	}
}

// frees gives these ids back, one by one.
func frees(t *testing.T, s *Slots, ids ...int) {
	t.Helper()
	for _, id := range ids {
		if err := s.Free(id); err != api.OK {
			t.Fatalf("Free(%d): %v, want OK", id, err)
		}
	}
}

// full asks s, which has none to take.
func full(t *testing.T, s *Slots) {
	t.Helper()
	if id, err := s.Take(); id != 0 || err != api.ErrFull {
		t.Errorf("Take: %d, %v, want 0, ErrFull", id, err)
	}
}

// has holds what s tells of itself against the ids that live.
func has(t *testing.T, s *Slots, live ...int) {
	t.Helper()
	if got := s.All(); !slices.Equal(got, live) {
		t.Errorf("All: %v, want %v", got, live)
	}
	if got := s.Len(); got != len(live) {
		t.Errorf("Len: %d, want %d", got, len(live))
	}
	for _, id := range live {
		if !s.Live(id) {
			t.Errorf("Live(%d): false, want true", id)
		}
	}
}

// refuses gives an id back that can't be, and looks that nothing changes.
func refuses(t *testing.T, s *Slots, id int, want api.Errno) {
	t.Helper()
	before := s.All()
	if s.Live(id) {
		t.Errorf("Live(%d): true, want false", id)
	}
	if err := s.Free(id); err != want {
		t.Errorf("Free(%d): %v, want %v", id, err, want)
	}
	has(t, s, before...)
}

// P4.1
func TestId(t *testing.T) {
	for _, c := range []struct{ index, age, want int }{
		{0, 1, 65536},
		{1, 1, 65537},
		{65535, 1, 131071},
		{0, 2, 131072},
		{0, oldest, 140737488289792},
		{65535, oldest, 140737488355327},
		{4711, 815, 815*65536 + 4711},

		{-1, 1, 0}, {65536, 1, 0}, {lowest, 1, 0}, {highest, 1, 0},
		{0, 0, 0}, {0, -1, 0}, {0, 1 << 31, 0}, {0, lowest, 0}, {0, highest, 0},
		{65535, 0, 0}, {65535, 1 << 31, 0},
		{-1, 0, 0}, {65536, 1 << 31, 0}, {-1, 2, 0}, {65536, 2, 0},
		{highest, highest, 0}, {lowest, lowest, 0}, {highest, lowest, 0},
		{0, 1 << 48, 0}, {0, 1<<48 + 1, 0}, {1 << 62, 4, 0},
	} {
		if got := Id(c.index, c.age); got != c.want {
			t.Errorf("Id(%d, %d): %d, want %d", c.index, c.age, got, c.want)
		}
	}
}

// P4.1
func TestParts(t *testing.T) {
	for _, c := range []struct{ id, index, age int }{
		{65536, 0, 1},
		{65537, 1, 1},
		{131071, 65535, 1},
		{131072, 0, 2},
		{140737488289791, 65535, oldest - 1},
		{140737488289792, 0, oldest},
		{140737488355327, 65535, oldest}, // the greatest id

		{0, -1, 0}, {1, -1, 0}, {65535, -1, 0},
		{-1, -1, 0}, {-65535, -1, 0}, {-65536, -1, 0}, {-65537, -1, 0}, {-131072, -1, 0},
		{140737488355328, -1, 0}, {140737488355329, -1, 0}, {140737488355328 + 65536, -1, 0},
		{lowest, -1, 0}, {lowest + 65536, -1, 0}, {highest, -1, 0},
		{1 << 48, -1, 0}, {1<<48 + 65536, -1, 0}, {-1 << 48, -1, 0}, {-1<<48 + 65536, -1, 0},
	} {
		if got := Index(c.id); got != c.index {
			t.Errorf("Index(%d): %d, want %d", c.id, got, c.index)
		}
		if got := Age(c.id); got != c.age {
			t.Errorf("Age(%d): %d, want %d", c.id, got, c.age)
		}
	}
}

// P4.1: the parts lead to the id, and the id to the parts.
func TestIdAndParts(t *testing.T) {
	for _, index := range []int{0, 1, 63, 64, 4095, 4096, 32767, 32768, 65534, 65535} {
		for _, age := range []int{1, 2, 3, 65535, 65536, 65537, oldest - 1, oldest} {
			id := Id(index, age)
			if Index(id) != index || Age(id) != age {
				t.Errorf("Id(%d, %d): %d, of which the parts are %d, %d", index, age, id, Index(id), Age(id))
			}
		}
	}
}

// P4.2
func TestNewBounds(t *testing.T) {
	for _, most := range []int{lowest, -4096, -1, 0, 4097, 65536, 1 << 32, 1<<32 + 1, highest} {
		if New(most) != nil {
			t.Errorf("New(%d): not nil", most)
		}
	}
	for _, most := range []int{1, 2, 63, 64, 65, 127, 128, 4095, 4096} {
		s := made(t, most)
		has(t, s)
		var ids []int
		for index := range most {
			ids = append(ids, 65536+index)
		}
		takes(t, s, ids...)
		has(t, s, ids...)
		full(t, s)
		has(t, s, ids...)
		refuses(t, s, 65536+most, api.ErrNone)
	}
}

// P4.2: the chapter's example.
func TestExample(t *testing.T) {
	s := made(t, 2)
	takes(t, s, 65536, 65537)
	frees(t, s, 65536)
	takes(t, s, 131072)
	has(t, s, 65537, 131072)
}

// P4.2: the least index that is free again, in each word of them.
func TestTakeTheLeast(t *testing.T) {
	s := made(t, 200)
	for index := range 200 {
		takes(t, s, 65536+index)
	}
	frees(t, s, 65536+199, 65536+64, 65536+63, 65536+130, 65536)
	takes(t, s, 2*65536, 2*65536+63)
	frees(t, s, 2*65536)
	takes(t, s, 3*65536, 2*65536+64, 2*65536+130, 2*65536+199)
	full(t, s)
}

// P4.2: an index that was never taken comes behind a lesser one that was.
func TestTakeOldBeforeNew(t *testing.T) {
	s := made(t, 3)
	takes(t, s, 65536)
	frees(t, s, 65536)
	takes(t, s, 131072, 65537)
	frees(t, s, 131072, 65537)
	takes(t, s, 196608, 131073, 65538)
	has(t, s, 65538, 131073, 196608)
}

// P4.2, P4.3: an index whose age is used up is not taken any more.
func TestUsedUp(t *testing.T) {
	s := made(t, 3)
	s.ages[0], s.ages[1] = oldest-1, oldest
	last := Id(0, oldest)
	takes(t, s, last, 65538)
	has(t, s, 65538, last)
	full(t, s)
	frees(t, s, last)
	full(t, s)
	refuses(t, s, last, api.ErrGone)
	refuses(t, s, Id(1, oldest), api.ErrGone)
	frees(t, s, 65538)
	takes(t, s, 131074)
	frees(t, s, 131074)
	has(t, s)

	one := made(t, 1)
	one.ages[0] = oldest - 1
	takes(t, one, last)
	frees(t, one, last)
	full(t, one)
	full(t, one.Copy())
	has(t, one)
}

// P4.2
func TestFree(t *testing.T) {
	s := made(t, 3)
	takes(t, s, 65536, 65537)
	frees(t, s, 65536)
	has(t, s, 65537)
	refuses(t, s, 65536, api.ErrGone)
	takes(t, s, 131072)
	refuses(t, s, 65536, api.ErrGone)
	frees(t, s, 131072)
	refuses(t, s, 131072, api.ErrGone)
	refuses(t, s, 65536, api.ErrGone)

	for _, id := range []int{
		196608,       // the age to come of a free index
		131073,       // that of a taken one
		65538,        // an index that was never taken
		65539,        // one beyond the bound
		65536 + 4095, // beyond it, at the end of the bits
		65536 + 4096, // beyond them
		131071,       // the greatest index
		Id(0, oldest), Id(1, oldest), Id(2, oldest), Id(65535, oldest),
		0, 1, 2, 65535, -1, -65536, -65537, 1 << 47, 1<<47 + 65536, 1<<48 + 65537,
		lowest, lowest + 65537, highest,
	} {
		refuses(t, s, id, api.ErrNone)
	}
	has(t, s, 65537)
	frees(t, s, 65537)
	has(t, s)
	takes(t, s, 196608, 131073, 65538)
}

// P4.2: of new Slots nothing was ever taken.
func TestFreeOfNew(t *testing.T) {
	for _, most := range []int{1, 4096} {
		s := made(t, most)
		for _, id := range []int{0, 65536, 65536 + most - 1, 65536 + most, 131072, -65536} {
			refuses(t, s, id, api.ErrNone)
		}
		takes(t, s, 65536)
	}
}

// P4.2: by ids, not by indexes.
func TestAllRises(t *testing.T) {
	s := made(t, 4)
	takes(t, s, 65536, 65537, 65538, 65539)
	frees(t, s, 65536, 65538)
	takes(t, s, 131072)
	frees(t, s, 131072)
	takes(t, s, 196608, 131074)
	has(t, s, 65537, 65539, 131074, 196608)
}

// R3: what All tells is the caller's.
func TestAllIsNew(t *testing.T) {
	s := made(t, 3)
	takes(t, s, 65536, 65537)
	all := s.All()
	room := all[:cap(all)]
	for i := range room {
		room[i] = -1
	}
	has(t, s, 65536, 65537)
	again := s.All()
	frees(t, s, 65536)
	takes(t, s, 131072)
	if !slices.Equal(again, []int{65536, 65537}) {
		t.Errorf("All: %v behind later calls", again)
	}
}

// P4.2: a Copy goes on alike, and each goes its own way.
func TestCopy(t *testing.T) {
	empty := made(t, 2)
	copied := empty.Copy()
	takes(t, copied, 65536, 65537)
	full(t, copied)
	has(t, empty)
	takes(t, empty, 65536)
	has(t, copied, 65536, 65537)

	s := made(t, 130)
	var ids []int
	for index := range 130 {
		ids = append(ids, 65536+index)
	}
	takes(t, s, ids...)
	frees(t, s, 65536+1, 65536+70, 65536+129)
	other := s.Copy()
	has(t, other, s.All()...)
	refuses(t, other, 65536+70, api.ErrGone)
	refuses(t, other, 65536+130, api.ErrNone)

	takes(t, s, 131072+1)
	if other.Live(131072+1) || other.Len() != 127 {
		t.Errorf("Copy: lives with the first")
	}
	refuses(t, other, 131072+1, api.ErrNone)
	frees(t, other, 65536)
	if !s.Live(65536) || s.Len() != 128 {
		t.Errorf("Copy: the first lives with it")
	}
	takes(t, other, 131072, 131072+1, 131072+70, 131072+129)
	takes(t, s, 131072+70, 131072+129)
	full(t, s)
	full(t, other)
}

// R5
func TestNoCallMade(t *testing.T) {
	ids := []int{0, 65536, 65537, 65535, -1, 131072, Id(65535, oldest), lowest, highest}
	for name, s := range map[string]*Slots{"nil": nil, "zero": {}} {
		for range 2 {
			if id, err := s.Take(); id != 0 || err != api.ErrMade {
				t.Errorf("%s Take: %d, %v", name, id, err)
			}
			for _, id := range ids {
				if err := s.Free(id); err != api.ErrMade {
					t.Errorf("%s Free(%d): %v", name, id, err)
				}
				if s.Live(id) {
					t.Errorf("%s Live(%d): true", name, id)
				}
			}
			if s.Len() != 0 || len(s.All()) != 0 || s.Copy() != nil {
				t.Errorf("%s: Len %d, All %v, Copy %v", name, s.Len(), s.All(), s.Copy())
			}
		}
	}
}
