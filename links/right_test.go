package links

import (
	"math/rand"
	"slices"
	"testing"

	"wherry/api"
)

// The tests of this file drive Links by drawn calls, the same ones each time,
// and hold each answer against plain lists; a call that panicked there would
// fail them too (P1).

// model knows Links as plain lists.
type model struct {
	things int
	lists  [][]int
}

func (m *model) where(thing int) int {
	for list, members := range m.lists {
		if slices.Contains(members, thing) {
			return list
		}
	}
	return -1
}

func (m *model) isList(list int) bool   { return list >= 0 && list < len(m.lists) }
func (m *model) isThing(thing int) bool { return thing >= 0 && thing < m.things }

func (m *model) put(list, thing int, first bool) api.Errno {
	if !m.isList(list) || !m.isThing(thing) {
		return api.ErrRange
	}
	if m.where(thing) >= 0 {
		return api.ErrState
	}
	place := len(m.lists[list])
	if first {
		place = 0
	}
	m.lists[list] = slices.Insert(m.lists[list], place, thing)
	return api.OK
}

func (m *model) remove(thing int) api.Errno {
	if !m.isThing(thing) {
		return api.ErrRange
	}
	list := m.where(thing)
	if list < 0 {
		return api.ErrNone
	}
	place := slices.Index(m.lists[list], thing)
	m.lists[list] = slices.Delete(m.lists[list], place, place+1)
	return api.OK
}

func (m *model) pop(list int) (int, api.Errno) {
	if !m.isList(list) {
		return 0, api.ErrRange
	}
	if len(m.lists[list]) == 0 {
		return 0, api.ErrNone
	}
	first := m.lists[list][0]
	return first, m.remove(first)
}

func (m *model) move(from, to int) (int, api.Errno) {
	if !m.isList(from) || !m.isList(to) {
		return 0, api.ErrRange
	}
	if from == to {
		return 0, api.ErrArg
	}
	moved := len(m.lists[from])
	m.lists[to] = append(m.lists[to], m.lists[from]...)
	m.lists[from] = nil
	return moved, api.OK
}

func (m *model) copied() *model {
	other := &model{things: m.things}
	for _, members := range m.lists {
		other.lists = append(other.lists, slices.Clone(members))
	}
	return other
}

// step does one drawn call to both.
func step(t *testing.T, r *rand.Rand, l *Links, m *model) {
	t.Helper()
	// One of either end is none such.
	list, to, thing := r.Intn(len(m.lists)+2)-1, r.Intn(len(m.lists)+2)-1, r.Intn(m.things+2)-1
	switch r.Intn(8) {
	case 0, 1:
		is(t, "Push", l.Push(list, thing), m.put(list, thing, false))
	case 2, 3:
		is(t, "Front", l.Front(list, thing), m.put(list, thing, true))
	case 4, 5:
		is(t, "Remove", l.Remove(thing), m.remove(thing))
	case 6:
		n, err := l.Pop(list)
		want, wantErr := m.pop(list)
		tells(t, "Pop", n, err, want, wantErr)
	case 7:
		n, err := l.Move(list, to)
		want, wantErr := m.move(list, to)
		tells(t, "Move", n, err, want, wantErr)
	}
}

// once looks that no thing stands twice.
func once(t *testing.T, l *Links) {
	t.Helper()
	seen := make(map[int]int)
	for list := range l.count {
		for thing := range l.All(list) {
			if seen[thing]++; seen[thing] > 1 {
				t.Fatalf("%d stands twice", thing)
			}
			if l.Where(thing) != list {
				t.Fatalf("%d stands in %d, and Where tells %d", thing, list, l.Where(thing))
			}
		}
	}
}

// P5.1, P5.2, P1
func TestDrawnCalls(t *testing.T) {
	for seed := range int64(80) {
		r := rand.New(rand.NewSource(seed))
		m := &model{things: 1 + r.Intn(9), lists: make([][]int, 1+r.Intn(4))}
		l := made(t, m.things, len(m.lists))
		for range 200 {
			step(t, r, l, m)
			holds(t, l, m.lists...)
			once(t, l)
			if r.Intn(20) == 0 {
				// The copy goes another way, and must leave l alone.
				other, its := l.Copy(), m.copied()
				for range 5 {
					step(t, r, other, its)
				}
				holds(t, other, its.lists...)
				holds(t, l, m.lists...)
			}
		}
		if t.Failed() {
			t.Fatalf("seed %d", seed)
		}
	}
}
