package slots

import (
	"math/rand"
	"slices"
	"testing"

	"wherry/api"
)

// The tests of this file drive Slots by drawn calls, the same ones each time,
// and hold each answer against plain lists; a call that panicked there would
// fail them too (P1).

// model knows Slots by the ids that were given, in their order.
type model struct {
	bound int
	given []int
	gone  []int
}

func (m *model) lives(id int) bool {
	return slices.Contains(m.given, id) && !slices.Contains(m.gone, id)
}

func (m *model) all() []int {
	var all []int
	for _, id := range m.given {
		if m.lives(id) {
			all = append(all, id)
		}
	}
	slices.Sort(all)
	return all
}

func (m *model) take() (int, api.Errno) {
	for index := range m.bound {
		age, taken := 1, false
		for _, id := range m.given {
			if id%65536 == index {
				age++
				taken = taken || m.lives(id)
			}
		}
		if !taken {
			id := age*65536 + index
			m.given = append(m.given, id)
			return id, api.OK
		}
	}
	return 0, api.ErrFull
}

func (m *model) free(id int) api.Errno {
	if !slices.Contains(m.given, id) {
		return api.ErrNone
	}
	if !m.lives(id) {
		return api.ErrGone
	}
	m.gone = append(m.gone, id)
	return api.OK
}

func (m *model) copied() *model {
	return &model{m.bound, slices.Clone(m.given), slices.Clone(m.gone)}
}

// draw tells an id that was given, often, or one near to those.
func (m *model) draw(r *rand.Rand) int {
	if len(m.given) > 0 && r.Intn(4) > 0 {
		return m.given[r.Intn(len(m.given))]
	}
	return r.Intn(6)*65536 + r.Intn(m.bound+2) - 1
}

// agree holds all that s tells of itself against m.
func agree(t *testing.T, s *Slots, m *model) {
	t.Helper()
	all := m.all()
	has(t, s, all...)
	indexes := make(map[int]int)
	for _, id := range all {
		indexes[Index(id)]++
	}
	if len(indexes) != len(all) {
		t.Fatalf("two of %v have one index", all)
	}
}

// step does one drawn call to both.
func step(t *testing.T, r *rand.Rand, s *Slots, m *model) {
	t.Helper()
	switch r.Intn(4) {
	case 0, 1:
		before := slices.Clone(m.given)
		id, err := s.Take()
		if want, wantErr := m.take(); id != want || err != wantErr {
			t.Fatalf("Take: %d, %v, want %d, %v", id, err, want, wantErr)
		}
		if err == api.OK && slices.Contains(before, id) {
			t.Fatalf("Take: %d once more", id)
		}
	case 2:
		id := m.draw(r)
		if got, want := s.Free(id), m.free(id); got != want {
			t.Fatalf("Free(%d): %v, want %v", id, got, want)
		}
	case 3:
		id := m.draw(r)
		if got, want := s.Live(id), m.lives(id); got != want {
			t.Fatalf("Live(%d): %v, want %v", id, got, want)
		}
	}
}

// P4.2, P4.3, P1
func TestDrawnCalls(t *testing.T) {
	for seed := range int64(60) {
		r := rand.New(rand.NewSource(seed))
		bound := 1 + r.Intn(5)
		if seed%6 == 0 {
			bound = 60 + r.Intn(10)
		}
		s, m := made(t, bound), &model{bound: bound}
		for range 150 {
			step(t, r, s, m)
			agree(t, s, m)
			if r.Intn(20) == 0 {
				// The copy goes another way, and must leave s alone.
				other, its := s.Copy(), m.copied()
				for range 5 {
					step(t, r, other, its)
				}
				agree(t, other, its)
				agree(t, s, m)
			}
		}
	}
}

// P4.3: over many lives of few indexes no id comes twice.
func TestNoneTwice(t *testing.T) {
	s := made(t, 3)
	seen := make(map[int]int)
	for range 3000 {
		for range 3 {
			id, err := s.Take()
			if seen[id]++; seen[id] > 1 || err != api.OK {
				t.Fatalf("Take: %d, %v once more", id, err)
			}
		}
		all := s.All()
		slices.Reverse(all)
		frees(t, s, all...)
	}
}

// P4.1, P1: drawn numbers of any size, held against the words of the promise.
func TestDrawnParts(t *testing.T) {
	r := rand.New(rand.NewSource(4))
	draw := func() int {
		x := int(r.Uint64() >> r.Intn(64))
		if r.Intn(4) == 0 {
			x = -x
		}
		return x
	}
	for range 100000 {
		id := draw()
		index, age := Index(id), Age(id)
		is := id >= 65536 && id < 1<<47
		if is && (age*65536+index != id || index < 0 || index > 65535 || Id(index, age) != id) {
			t.Fatalf("%d: parts %d, %d", id, index, age)
		}
		if !is && (index != -1 || age != 0) {
			t.Fatalf("%d: parts %d, %d", id, index, age)
		}
		index, age = draw(), draw()
		want := 0
		if index >= 0 && index < 65536 && age > 0 && age < 1<<31 {
			want = age*65536 + index
		}
		if got := Id(index, age); got != want {
			t.Fatalf("Id(%d, %d): %d, want %d", index, age, got, want)
		}
	}
}
