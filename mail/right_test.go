package mail

import (
	"math/rand"
	"slices"
	"testing"

	"wherry/api"
)

// The tests of this file hold a Box against a plain list of what is in it, by drawn
// calls, the same ones each time, and follow each event from its Put to its end. A
// call that panicked there would fail them too (P1).

// model knows a Box as its events in order.
type model struct {
	most int
	l    []api.Event
}

// maybe tells whether an event may be in a Box, kind by kind.
func maybe(e api.Event) bool {
	id := func(n int) bool { return n >= 1 && n <= 1<<40 }
	c := e.Context
	empty := c == api.Context{}
	switch e.Kind {
	case 1:
		return id(e.Act) && e.Thread == 0 && e.Value == 0 && empty
	case 2:
		return id(e.Act) && id(e.Thread) && e.Value == 0 &&
			c.Program >= 0 && c.Program < 8 && c.PC >= 0 && c.PC <= 64 && c.Depth >= 0 && c.Depth <= 8
	case 3:
		return id(e.Act) && id(e.Thread) && e.Value == 0 && empty
	case 4:
		return id(e.Act) && id(e.Thread) && e.Value >= 0 && e.Value <= 1000 && empty
	}
	return false
}

func (m *model) put(e api.Event) api.Errno {
	if !maybe(e) {
		return api.ErrArg
	}
	if len(m.l) >= m.most {
		return api.ErrFull
	}
	m.l = append(slices.Clone(m.l), e)
	return api.OK
}

// take goes one by one.
func (m *model) take(most int) []api.Event {
	var told []api.Event
	for len(m.l) > 0 && (len(told) == 0 || len(told) < most) {
		e := m.l[0]
		told, m.l = append(told, e), slices.Clone(m.l[1:])
		if e.Kind == 2 {
			break
		}
	}
	return told
}

func (m *model) undo(l []api.Event) api.Errno {
	for _, e := range l {
		if !maybe(e) {
			return api.ErrArg
		}
	}
	if len(l)+len(m.l) > m.most {
		return api.ErrFull
	}
	m.l = slices.Concat(l, m.l)
	return api.OK
}

func (m *model) drop(thread int) int {
	var left []api.Event
	for _, e := range m.l {
		if e.Thread != thread {
			left = append(left, e)
		}
	}
	n := len(m.l) - len(left)
	m.l = left
	return n
}

func (m *model) copied() *model {
	return &model{m.most, slices.Clone(m.l)}
}

// drawnGood is an event that may be in a Box, of few threads and kinds.
func drawnGood(r *rand.Rand) api.Event {
	act, thread := 1+r.Intn(1<<20), 1+r.Intn(5)
	switch r.Intn(7) {
	case 0, 1:
		return grant(act)
	case 2:
		return preempted(act, thread)
	case 3, 4:
		return blocked(act, thread)
	}
	return unblocked(act, thread, r.Intn(1001))
}

// drawnAny is now and then an event that may not be there.
func drawnAny(r *rand.Rand) api.Event {
	e := drawnGood(r)
	switch r.Intn(40) {
	case 0:
		return wrongs()[r.Intn(len(wrongs()))]
	case 1:
		e.Kind = r.Intn(10) - 1
	case 2:
		e.Thread = []int{lowest, -1, 0, far, far + 1, highest}[r.Intn(6)]
	case 3:
		e.Value = []int{lowest, -1, 0, 1000, 1001, highest}[r.Intn(6)]
	}
	return e
}

func drawnRow(r *rand.Rand, count int) []api.Event {
	var l []api.Event
	for range count {
		l = append(l, drawnAny(r))
	}
	return l
}

// drawnMost is mostly as many as a Box here may have.
func drawnMost(r *rand.Rand) int {
	if r.Intn(10) == 0 {
		return []int{lowest, -1, 0, 1024, highest}[r.Intn(5)]
	}
	return r.Intn(20)
}

// step does one drawn call to both. What is handed in and what is told is written
// over: a Box must hold neither.
func step(t *testing.T, r *rand.Rand, b *Box, m *model) {
	t.Helper()
	switch r.Intn(20) {
	case 0:
		thread := r.Intn(8) - 1
		drops(t, b, thread, m.drop(thread))
	case 1, 2, 3:
		most := drawnMost(r)
		got, want := b.Take(most), m.take(most)
		if !slices.Equal(got, want) {
			t.Errorf("Take(%d): %v, want %v", most, got, want)
		}
		if r.Intn(2) == 0 {
			undoes(t, b, got, m.undo(want))
		}
		spoil(got)
	case 4, 5:
		l := drawnRow(r, r.Intn(1+m.most))
		kept := slices.Clone(l)
		undoes(t, b, l, m.undo(kept))
		if !slices.Equal(l, kept) {
			t.Errorf("Undo changed what it was given: %v, want %v", l, kept)
		}
		spoil(l)
	case 6:
		spoil(b.All())
	default:
		e := drawnAny(r)
		puts(t, b, e, m.put(e))
	}
}

// P15.1, P1
func TestDrawnCalls(t *testing.T) {
	for seed := range int64(60) {
		r := rand.New(rand.NewSource(seed))
		m := &model{most: 1 + r.Intn(20)}
		b := made(t, m.most)
		for range 1000 {
			step(t, r, b, m)
			holds(t, b, m.l...)
			if r.Intn(30) == 0 {
				// The copy goes another way, and must leave b alone.
				other, its := b.Copy(), m.copied()
				for range 8 {
					step(t, r, other, its)
				}
				holds(t, other, its.l...)
				holds(t, b, m.l...)
			}
		}
		if t.Failed() {
			t.Fatalf("seed %d", seed)
		}
	}
}

// P15.1: copies of copies, each with a list of its own.
func TestDrawnCopies(t *testing.T) {
	r := rand.New(rand.NewSource(15))
	boxes := make([]*Box, 5)
	models := make([]*model, 5)
	for i := range boxes {
		boxes[i], models[i] = made(t, 2+i), &model{most: 2 + i}
	}
	for range 5000 {
		i, j := r.Intn(5), r.Intn(5)
		switch r.Intn(30) {
		case 0:
			boxes[i], models[i] = boxes[j].Copy(), models[j].copied()
		case 1:
			// Fresh ones, now and then, or the copies would all have as much room.
			most := 1 + r.Intn(8)
			boxes[i], models[i] = made(t, most), &model{most: most}
		}
		step(t, r, boxes[i], models[i])
		for k, b := range boxes {
			holds(t, b, models[k].l...)
		}
		if t.Failed() {
			t.FailNow()
		}
	}
}

// P15.1: of the greatest ones, filled and emptied by each call that can.
func TestGreatest(t *testing.T) {
	const most = 1024
	r := rand.New(rand.NewSource(16))
	b, m := made(t, most), &model{most: most}
	for turn := range 6 {
		for len(m.l) < most {
			e := drawnGood(r)
			puts(t, b, e, m.put(e))
		}
		puts(t, b, grant(1), m.put(grant(1)))
		drops(t, b, turn, m.drop(turn))
		l := drawnRow(r, most-len(m.l)+turn%2)
		undoes(t, b, l, m.undo(l))
		holds(t, b, m.l...)
		for len(m.l) > 100*turn {
			takes(t, b, 16, m.take(16)...)
		}
		holds(t, b, m.l...)
		if t.Failed() {
			t.FailNow()
		}
	}
}

// P15.2: each event has an Act of its own here, one more than the last that was put.
// Whatever is taken and undone meanwhile, they come in order, and each once.
func TestComeInOrder(t *testing.T) {
	for seed := range int64(40) {
		r := rand.New(rand.NewSource(seed))
		b := made(t, 1+r.Intn(30))
		put, told := 0, 0 // the Acts that were put and told last
		for range 2000 {
			if r.Intn(2) == 0 {
				e := drawnGood(r)
				e.Act = put + 1
				if b.Put(e) == api.OK {
					put++
				}
				continue
			}
			l := b.Take(drawnMost(r))
			for i, e := range l {
				if e.Act != told+1+i {
					t.Fatalf("seed %d: Act %d came behind %d", seed, e.Act, told+i)
				}
			}
			// None, some or all of them are undone, from the end on.
			at := r.Intn(len(l) + 1)
			undoes(t, b, l[at:], api.OK)
			told += at
			if b.Len() != put-told {
				t.Fatalf("seed %d: Len %d, of %d put and %d told", seed, b.Len(), put, told)
			}
		}
	}
}
