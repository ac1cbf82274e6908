package device

import (
	"math/rand"
	"slices"
	"testing"

	"wherry/api"
)

// The tests of this file hold a Device against a plain list of what stands, by
// drawn calls, the same ones each time, and follow each request from its Start to
// its end. A call that panicked there would fail them too (P1).

// model knows a Device as its requests in order, and what was counted.
type model struct {
	most, given, done int
	l                 []Request
}

func (m *model) start(r Request) (int, api.Errno) {
	if r.Space < 0 || r.Thread < 0 || r.Kind < 1 || r.Kind > 2 || r.Size < 0 || r.Size > 1000 {
		return 0, api.ErrArg
	}
	if len(m.l) >= m.most {
		return 0, api.ErrFull
	}
	m.given++
	r.Id = m.given
	m.l = append(m.l, r)
	return m.given, api.OK
}

func (m *model) finish(k int) (Request, int, api.Errno) {
	if len(m.l) == 0 {
		return Request{}, 0, api.ErrNone
	}
	place := 0
	if k > 0 {
		place = k % len(m.l)
	}
	r := m.l[place]
	m.l = slices.Concat(m.l[:place], m.l[place+1:])
	m.done++
	return r, worth(r), api.OK
}

func (m *model) cancel(space int) int {
	var left []Request
	for _, r := range m.l {
		if r.Space != space {
			left = append(left, r)
		}
	}
	n := len(m.l) - len(left)
	m.l = left
	return n
}

func (m *model) copied() *model {
	other := *m
	other.l = slices.Clone(m.l)
	return &other
}

// drawnRequest is now and then one that may not be.
func drawnRequest(source *rand.Rand) Request {
	r := Request{
		Id:     source.Intn(9) - 1,
		Space:  source.Intn(4),
		Thread: source.Intn(1 << 20),
		Kind:   1 + source.Intn(2),
		Size:   source.Intn(1001),
	}
	switch source.Intn(24) {
	case 0:
		r.Space = []int{-1, lowest}[source.Intn(2)]
	case 1:
		r.Thread = []int{-1, lowest}[source.Intn(2)]
	case 2:
		r.Kind = []int{lowest, -1, 0, 3, highest}[source.Intn(5)]
	case 3:
		r.Size = []int{lowest, -1, 1001, highest}[source.Intn(4)]
	}
	return r
}

// drawnPlace is mostly near to where something stands.
func drawnPlace(source *rand.Rand, n int) int {
	if source.Intn(10) == 0 {
		return []int{lowest, -n, highest - n, highest}[source.Intn(4)]
	}
	return source.Intn(3*n+4) - 2
}

// step does one drawn call to both.
func step(t *testing.T, source *rand.Rand, d *Device, m *model) {
	t.Helper()
	switch source.Intn(20) {
	case 0:
		space := source.Intn(6) - 1
		cancels(t, d, space, m.cancel(space))
	case 1, 2, 3, 4, 5, 6, 7, 8:
		k := drawnPlace(source, len(m.l))
		r, result, err := m.finish(k)
		finishes(t, d, k, r, result, err)
	default:
		r := drawnRequest(source)
		id, err := m.start(r)
		starts(t, d, r, id, err)
	}
}

// P11.1, P1
func TestDrawnCalls(t *testing.T) {
	for seed := range int64(60) {
		source := rand.New(rand.NewSource(seed))
		m := &model{most: 1 + source.Intn(20)}
		d := made(t, m.most)
		for range 1500 {
			step(t, source, d, m)
			holds(t, d, m.done, m.l...)
			if source.Intn(30) == 0 {
				// The copy goes another way, and must leave d alone.
				other, its := d.Copy(), m.copied()
				for range 8 {
					step(t, source, other, its)
				}
				holds(t, other, its.done, its.l...)
				holds(t, d, m.done, m.l...)
			}
		}
		if t.Failed() {
			t.Fatalf("seed %d", seed)
		}
	}
}

// P11.1: copies of copies, each with a list of its own.
func TestDrawnCopies(t *testing.T) {
	source := rand.New(rand.NewSource(11))
	devices := make([]*Device, 5)
	models := make([]*model, 5)
	for i := range devices {
		devices[i], models[i] = made(t, 2+i), &model{most: 2 + i}
	}
	for range 6000 {
		i, j := source.Intn(5), source.Intn(5)
		switch source.Intn(30) {
		case 0:
			devices[i], models[i] = devices[j].Copy(), models[j].copied()
		case 1:
			// Fresh ones, now and then, or the copies would all have as much room.
			most := 1 + source.Intn(8)
			devices[i], models[i] = made(t, most), &model{most: most}
		}
		step(t, source, devices[i], models[i])
		for k, d := range devices {
			holds(t, d, models[k].done, models[k].l...)
		}
		if t.Failed() {
			t.FailNow()
		}
	}
}

// P11.1, P1: of the greatest one, filled and emptied in all orders that a step of
// places gives.
func TestGreatest(t *testing.T) {
	const most = 4096
	d, m := made(t, most), &model{most: most}
	for turn, stride := range []int{0, 1, 2731, most - 1} {
		for i := range most {
			r := Request{Space: i % 16, Thread: i, Kind: 1 + i%2, Size: i % 1001}
			id, err := m.start(r)
			starts(t, d, r, id, err)
		}
		starts(t, d, asked(0, 1), 0, api.ErrFull)
		space := 5 * turn
		cancels(t, d, space, m.cancel(space))
		holds(t, d, m.done, m.l...)
		for i := 0; len(m.l) > 0; i++ {
			r, result, err := m.finish(i * stride)
			finishes(t, d, i*stride, r, result, err)
		}
		holds(t, d, m.done)
		if t.Failed() {
			t.FailNow()
		}
	}
}

// P11.2: each request that was started ends once, finished or cancelled, and none
// else does.
func TestEachEndsOnce(t *testing.T) {
	for seed := range int64(40) {
		source := rand.New(rand.NewSource(seed))
		d := made(t, 1+source.Intn(30))
		open := map[int]Request{} // by Ids: those that were started, and have not ended
		started, finished, cancelled := 0, 0, 0
		for range 2000 {
			switch source.Intn(16) {
			case 0:
				space := source.Intn(4)
				n := d.Cancel(space)
				for id, r := range open {
					if r.Space == space {
						delete(open, id)
						n--
						cancelled++
					}
				}
				if n != 0 {
					t.Fatalf("Cancel(%d): %d more than were open", space, n)
				}
			case 1, 2, 3, 4, 5, 6:
				r, _, err := d.Finish(drawnPlace(source, d.Len()))
				if err != api.OK {
					continue
				}
				if was, ok := open[r.Id]; !ok || was != r {
					t.Fatalf("finished: %+v, open: %+v, %v", r, was, ok)
				}
				delete(open, r.Id)
				finished++
			default:
				r := drawnRequest(source)
				id, err := d.Start(r)
				if err != api.OK {
					continue
				}
				started++
				r.Id = id
				if _, ok := open[id]; ok || id != started {
					t.Fatalf("the %dth Start: Id %d, open %v", started, id, ok)
				}
				open[id] = r
			}
			if d.Len() != len(open) || d.Done() != finished || started != finished+cancelled+d.Len() {
				t.Fatalf("of %d started: %d finished, %d cancelled, Len %d, Done %d", started, finished, cancelled, d.Len(), d.Done())
			}
		}
		for _, r := range d.All() {
			if open[r.Id] != r {
				t.Fatalf("stands: %+v, open: %+v", r, open[r.Id])
			}
		}
	}
}
