package wheel

import (
	"maps"
	"math/rand"
	"slices"
	"testing"

	"wherry/api"
)

// The tests of this file hold a Wheel against a plain list of who waits until
// when: over all times at once from many starts, over all pairs of times near to
// where rows go down, and by drawn calls, the same ones each time. A call that
// panicked there would fail them too (P1).

// model knows a Wheel as its time and who waits until when.
type model struct {
	most, now int
	waits     waiting
}

func (m *model) isID(id int) bool { return id >= 0 && id < m.most }

func (m *model) add(id, after int) api.Errno {
	if !m.isID(id) || after < 1 || after > 65535 {
		return api.ErrRange
	}
	if _, ok := m.waits[id]; ok {
		return api.ErrState
	}
	m.waits[id] = m.now + after
	return api.OK
}

func (m *model) cancel(id int) api.Errno {
	if !m.isID(id) {
		return api.ErrRange
	}
	if _, ok := m.waits[id]; !ok {
		return api.ErrNone
	}
	delete(m.waits, id)
	return api.OK
}

func (m *model) skip(n int) [][]int {
	m.now += min(max(n, 0), 100000)
	var all [][]int
	last := 0
	for _, id := range m.waits.inOrder() {
		if m.waits[id] > m.now {
			break
		}
		if m.waits[id] > last {
			all = append(all, nil)
		}
		last = m.waits[id]
		all[len(all)-1] = append(all[len(all)-1], id)
		delete(m.waits, id)
	}
	return all
}

func (m *model) tick() []int {
	return slices.Concat(m.skip(1)...)
}

func (m *model) copied() *model {
	return &model{most: m.most, now: m.now, waits: maps.Clone(m.waits)}
}

// turns are the times on both sides of where rows go down, and some between.
func turns() []int {
	return []int{
		0, 1, 2, 7, 14, 15, 16, 17, 31, 32, 33, 240, 254, 255, 256, 257, 271, 272, 511, 512, 513,
		3840, 4079, 4080, 4094, 4095, 4096, 4097, 4111, 4112, 4351, 4352, 8191, 8192, 8193,
		32767, 32768, 61439, 61440, 61441, 65279, 65280, 65519, 65520, 65533, 65534, 65535,
		65536, 65537, 65551, 65552, 65791, 65792, 69631, 69632, 131071, 131072, 131073, 200000,
	}
}

// P10.2: from each start all the times for which an id can wait.
func TestEachIsWokenAtItsTime(t *testing.T) {
	const most = 4096
	for _, now := range []int{0, 1, 15, 16, 255, 257, 4095, 4096, 30001, 65535, 65536, 65537, 131071} {
		w := at(t, most, now)
		for first := 1; first <= 65535; first += most {
			start := w.Now()
			until := make([]int, most)
			for id := range most {
				// 2731 and 4096 have no part but 1 in common: each time comes once.
				if after := first + id*2731%most; after <= 65535 {
					is(t, "Add", w.Add(id, after), api.OK)
					until[id] = start + after
				}
			}
			wakesAll(t, w, until)
			// The next ones start from where all rows stand as they stood here.
			w.Skip((65536 - w.Now()%65536 + now) % 65536)
		}
		if t.Failed() {
			t.Fatalf("from %d", now)
		}
	}
}

// wakesAll looks that each id that waits is woken at its time, and no other.
func wakesAll(t *testing.T, w *Wheel, until []int) {
	t.Helper()
	left := w.Len()
	for range 65535 {
		for _, id := range w.Tick() {
			left--
			if until[id] != w.Now() {
				t.Fatalf("woken at %d: %d, which waits until %d", w.Now(), id, until[id])
			}
		}
	}
	if left != 0 || w.Len() != 0 {
		t.Fatalf("at %d: %d not woken, Len %d", w.Now(), left, w.Len())
	}
}

// P10.2: from each time near to where a row goes down to each such time, and what
// is told on the way.
func TestBetweenTurns(t *testing.T) {
	for _, now := range turns() {
		w := at(t, len(turns()), now)
		m := &model{most: len(turns()), now: now, waits: waiting{}}
		for id, time := range turns() {
			is(t, "Add", w.Add(id, time-now), m.add(id, time-now))
		}
		holds(t, w, m.most, now, m.waits)
		for _, time := range turns() {
			n := time - w.Now()
			skips(t, w, n, m.skip(n)...)
			holds(t, w, m.most, m.now, m.waits)
		}
		if t.Failed() {
			t.Fatalf("from %d", now)
		}
	}
}

// P10.1: a Skip is so many Ticks.
func TestSkipIsTicks(t *testing.T) {
	for seed := range int64(20) {
		r := rand.New(rand.NewSource(seed))
		w := at(t, 300, r.Intn(70000))
		for id := range 300 {
			is(t, "Add", w.Add(id, drawnAfter(r)), api.OK)
		}
		other := w.Copy()
		n := r.Intn(100001)
		var want [][]int
		for range n {
			if woken := other.Tick(); len(woken) > 0 {
				want = append(want, woken)
			}
		}
		skips(t, w, n, want...)
		if w.Now() != other.Now() || !slices.Equal(w.All(), other.All()) {
			t.Errorf("behind Skip: %d, %v, behind Ticks: %d, %v", w.Now(), w.All(), other.Now(), other.All())
		}
	}
}

// drawnAfter is of any size, and often near to where a row goes down.
func drawnAfter(r *rand.Rand) int {
	size := 1 << r.Intn(17)
	near := size + r.Intn(5) - 2
	if r.Intn(2) == 0 {
		near = 1 + r.Intn(size)
	}
	return min(max(near, 1), 65535)
}

// askedAfter is now and then one that may not be.
func askedAfter(r *rand.Rand) int {
	if r.Intn(10) > 0 {
		return drawnAfter(r)
	}
	return []int{lowest, -1, 0, 65536, highest}[r.Intn(5)]
}

// drawnSkip is mostly short, and often ends near to where a row goes down.
func drawnSkip(r *rand.Rand, now int) int {
	if r.Intn(60) == 0 {
		return []int{lowest, -1, 0, 65535, 65536, 100000, 100001, highest}[r.Intn(8)]
	}
	size := 1 << r.Intn(13)
	if r.Intn(2) == 0 {
		return size - now%size + r.Intn(3) - 1
	}
	return r.Intn(size)
}

// step does one drawn call to both.
func step(t *testing.T, r *rand.Rand, w *Wheel, m *model) {
	t.Helper()
	// One of either end is none such.
	id := r.Intn(m.most+2) - 1
	switch r.Intn(12) {
	case 0, 1, 2, 3, 4:
		after := askedAfter(r)
		is(t, "Add", w.Add(id, after), m.add(id, after))
	case 5, 6:
		is(t, "Cancel", w.Cancel(id), m.cancel(id))
	case 7, 8, 9, 10:
		want := m.tick()
		ticks(t, w, want...)
	case 11:
		n := drawnSkip(r, m.now)
		skips(t, w, n, m.skip(n)...)
	}
}

// P10.1, P10.2, P1
func TestDrawnCalls(t *testing.T) {
	for seed := range int64(150) {
		r := rand.New(rand.NewSource(seed))
		m := &model{most: 1 + r.Intn(60), now: r.Intn(3) * r.Intn(70000), waits: waiting{}}
		w := at(t, m.most, m.now)
		for range 500 {
			step(t, r, w, m)
			holds(t, w, m.most, m.now, m.waits)
			if r.Intn(30) == 0 {
				// The copy goes another way, and must leave w alone.
				other, its := w.Copy(), m.copied()
				for range 5 {
					step(t, r, other, its)
				}
				holds(t, other, its.most, its.now, its.waits)
				holds(t, w, m.most, m.now, m.waits)
			}
		}
		skips(t, w, 65535, m.skip(65535)...)
		holds(t, w, m.most, m.now, nil)
		if t.Failed() {
			t.Fatalf("seed %d", seed)
		}
	}
}
