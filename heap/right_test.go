package heap

import (
	"math/rand"
	"slices"
	"testing"

	"wherry/api"
	"wherry/num"
)

// The tests of this file drive a Heap by drawn calls, the same ones each time,
// and hold each answer against a plain list; a call that panicked there would
// fail them too (P1).

// model knows a Heap as the list of its things.
type model struct {
	most   int
	things []thing
}

func (m *model) find(id int) int {
	return slices.IndexFunc(m.things, func(x thing) bool { return x.id == id })
}

func (m *model) isID(id int) bool { return id >= 0 && id < m.most }

func (m *model) put(id, key int) api.Errno {
	if !m.isID(id) {
		return api.ErrRange
	}
	if m.find(id) >= 0 {
		return api.ErrState
	}
	m.things = append(m.things, thing{id, key})
	return api.OK
}

func (m *model) change(id, key int) api.Errno {
	if !m.isID(id) {
		return api.ErrRange
	}
	if m.find(id) < 0 {
		return api.ErrNone
	}
	m.things[m.find(id)].key = key
	return api.OK
}

func (m *model) remove(id int) api.Errno {
	if !m.isID(id) {
		return api.ErrRange
	}
	at := m.find(id)
	if at < 0 {
		return api.ErrNone
	}
	m.things = slices.Delete(m.things, at, at+1)
	return api.OK
}

func (m *model) pop() (thing, bool) {
	if len(m.things) == 0 {
		return thing{}, false
	}
	first := inOrder(m.things)[0]
	m.remove(first.id)
	return first, true
}

func (m *model) lower(by int) api.Errno {
	lowered := slices.Clone(m.things)
	for i, x := range m.things {
		key, ok := num.Sub(x.key, by)
		if !ok {
			return api.ErrRange
		}
		lowered[i].key = key
	}
	m.things = lowered
	return api.OK
}

func (m *model) copied() *model {
	return &model{most: m.most, things: slices.Clone(m.things)}
}

// drawnKey is often one that another thing has, and at times at int's ends.
func drawnKey(r *rand.Rand) int {
	switch r.Intn(12) {
	case 0:
		return lowest + r.Intn(3)
	case 1:
		return highest - r.Intn(3)
	}
	return r.Intn(9) - 4
}

// step does one drawn call to both.
func step(t *testing.T, r *rand.Rand, h *Heap, m *model) {
	t.Helper()
	// One of either end is none such.
	id, key := r.Intn(m.most+2)-1, drawnKey(r)
	switch r.Intn(12) {
	case 0, 1, 2, 3:
		is(t, "Put", h.Put(id, key), m.put(id, key))
	case 4, 5, 6, 7:
		is(t, "Change", h.Change(id, key), m.change(id, key))
	case 8, 9:
		is(t, "Remove", h.Remove(id), m.remove(id))
	case 10:
		want, wantOK := m.pop()
		pops(t, h, want, wantOK)
	case 11:
		is(t, "Lower", h.Lower(key), m.lower(key))
	}
}

// P6.1, P6.2, P1
func TestDrawnCalls(t *testing.T) {
	for seed := range int64(150) {
		r := rand.New(rand.NewSource(seed))
		m := &model{most: 1 + r.Intn(40)}
		h := made(t, m.most)
		for range 300 {
			step(t, r, h, m)
			holds(t, h, m.things...)
			if r.Intn(20) == 0 {
				// The copy goes another way, and must leave h alone.
				other, its := h.Copy(), m.copied()
				for range 5 {
					step(t, r, other, its)
				}
				holds(t, other, its.things...)
				holds(t, h, m.things...)
			}
		}
		for range len(m.things) + 1 {
			want, wantOK := m.pop()
			pops(t, h, want, wantOK)
		}
		if t.Failed() {
			t.Fatalf("seed %d", seed)
		}
	}
}
