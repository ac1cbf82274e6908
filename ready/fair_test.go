package ready

import (
	"math/rand"
	"slices"
	"testing"

	"wherry/api"
	"wherry/stride"
)

// The tests of this file go along rows in which one thread at most runs at a time, and
// hold the Picks of those two that never are blocked and never go (ids 0 and 1) against
// what their tickets say (P18.4).

// pair is those two, and what Picks they had where they are counted from.
type pair struct {
	tickets [2]int
	from    [2]int
}

// fair fails if the two's Picks are not as their tickets say: by Within, and reckoned
// apart, of counts so small that nothing is too great.
func (p *pair) fair(t *testing.T, q *Queue) {
	t.Helper()
	n1, n2 := q.Picks(0)-p.from[0], q.Picks(1)-p.from[1]
	t1, t2 := p.tickets[0], p.tickets[1]
	difference, borne := n1*t2-n2*t1, 2*(t1+t2)
	if !stride.Within(n1, t1, n2, t2, 1) || difference > borne || -difference > borne {
		t.Fatalf("of tickets %v: %d and %d Picks", p.tickets, n1, n2)
	}
}

// row is a Queue in which one runs at most.
type row struct {
	q       *Queue
	two     pair
	running int // -1: nobody
}

func newRow(t *testing.T, q *Queue, t1, t2 int) *row {
	t.Helper()
	is(t, "Join", q.Join(0, t1), api.OK)
	is(t, "Join", q.Join(1, t2), api.OK)
	return &row{q, pair{tickets: [2]int{t1, t2}}, -1}
}

// ends lets the one that runs run no more; only others may be blocked, or go.
func (w *row) ends(r *rand.Rand) api.Errno {
	id := w.running
	w.running = -1
	if id > 1 {
		switch r.Intn(6) {
		case 0, 1:
			return w.q.Block(id)
		case 2:
			return w.q.Drop(id)
		}
	}
	return w.q.Back(id)
}

// begins lets one run: mostly the one that is next.
func (w *row) begins(t *testing.T, r *rand.Rand, id int) api.Errno {
	switch {
	case r.Intn(12) == 0 && w.q.State(id) == 1:
		w.running = id
		return w.q.Take(id)
	case r.Intn(4) == 0 && w.q.State(id) == 3:
		w.running = id
		return w.q.Resume(id)
	}
	id, ok := w.q.Pick()
	if !ok {
		t.Fatalf("Pick: nobody, but %v", w.q.Waiting())
	}
	w.running = id
	return api.OK
}

// other does something with another thread that doesn't run.
func (w *row) other(r *rand.Rand, id int) api.Errno {
	switch w.q.State(id) {
	case 0:
		return w.q.Join(id, 1+r.Intn([]int{3, 100, rich}[r.Intn(3)]))
	case 3:
		if r.Intn(4) > 0 {
			return w.q.Wake(id)
		}
		return w.q.Drop(id)
	case 1:
		if r.Intn(4) == 0 {
			return w.q.Drop(id)
		}
	}
	return api.OK
}

// act does one drawn act.
func (w *row) act(t *testing.T, r *rand.Rand, ids int) {
	t.Helper()
	id := r.Intn(ids)
	switch n := r.Intn(20); {
	case n == 0:
		lowersAll(t, w.q, ids)
	case n < 4 && id > 1 && id != w.running:
		is(t, "an act of another one", w.other(r, id), api.OK)
	case w.running >= 0:
		is(t, "an end", w.ends(r), api.OK)
	default:
		is(t, "a begin", w.begins(t, r, id), api.OK)
	}
	w.two.fair(t, w.q)
	if !w.q.Sound() {
		t.Fatalf("Sound: false")
	}
}

// lowersAll lowers, and looks that each pass and now are less by the same, and that
// nobody's place is another one.
func lowersAll(t *testing.T, q *Queue, ids int) {
	t.Helper()
	now, waiting := q.Now(), q.Waiting()
	passes := make([]int, ids)
	for id := range passes {
		passes[id], _ = q.Pass(id)
	}
	states := func() []int {
		l := make([]int, ids)
		for id := range l {
			l[id] = 10*q.Picks(id) + q.State(id)
		}
		return l
	}
	before := states()
	if by := q.Lower(); by != now || q.Now() != 0 {
		t.Errorf("Lower: %d, and now is %d, want %d, and 0", by, q.Now(), now)
	}
	for id, pass := range passes {
		if got, ok := q.Pass(id); ok && got != pass-now {
			t.Errorf("Pass(%d): %d, want %d less %d", id, got, pass, now)
		}
	}
	if !slices.Equal(q.Waiting(), waiting) || !slices.Equal(states(), before) {
		t.Errorf("Waiting: %v, want %v; states %v, want %v", q.Waiting(), waiting, states(), before)
	}
}

// someTickets are those of the two.
func someTickets() [][2]int {
	return [][2]int{
		{1, 1}, {1, 2}, {2, 1}, {3, 7}, {10, 9}, {1, 1000}, {999, 1000}, {1, rich}, {rich, 1}, {rich, rich}, {rich - 1, rich},
		{32768, 3}, {65521, 65536},
	}
}

// P18.4: the document's second example, behind 30 quanta 10 and 20, one more or less.
func TestTwoThreads(t *testing.T) {
	w := newRow(t, made(t, 2), 1, 2)
	for range 30 {
		id, _ := w.q.Pick()
		is(t, "Back", w.q.Back(id), api.OK)
		w.two.fair(t, w.q)
	}
	if n := w.q.Picks(0); n < 9 || n > 11 || w.q.Picks(1) != 30-n {
		t.Errorf("Picks: %d and %d", n, w.q.Picks(1))
	}
}

// P18.4: with others that come, are blocked, wake and go.
func TestFairRows(t *testing.T) {
	for seed, tickets := range someTickets() {
		r := rand.New(rand.NewSource(int64(seed)))
		for _, ids := range []int{2, 3, 8} {
			w := newRow(t, made(t, ids), tickets[0], tickets[1])
			for range 20000 {
				w.act(t, r, ids)
			}
		}
	}
}

// P18.4: from any act on, and not just from where both came.
func TestFairFromAnyBeginning(t *testing.T) {
	for seed, tickets := range someTickets() {
		r := rand.New(rand.NewSource(int64(100 + seed)))
		w := newRow(t, made(t, 6), tickets[0], tickets[1])
		for range 60 {
			for range r.Intn(300) {
				w.act(t, r, 6)
			}
			w.two.from = [2]int{w.q.Picks(0), w.q.Picks(1)}
		}
	}
}

// P18.4, P18.3: where Pick lowers by itself in the midst.
func TestFairAboutFar(t *testing.T) {
	const now = 1<<60 - 20*one
	begin := raised(t, 8, now)
	for seed, tickets := range someTickets() {
		r := rand.New(rand.NewSource(int64(200 + seed)))
		w := newRow(t, begin.Copy(), tickets[0], tickets[1])
		for turn := 0; w.q.Now() > now/2 && turn < 100000; turn++ {
			// Nothing that lowers but Pick is drawn here, or it would come first.
			if id := r.Intn(8); id > 1 && id != w.running {
				is(t, "an act of another one", w.other(r, id), api.OK)
			} else if w.running >= 0 {
				is(t, "an end", w.ends(r), api.OK)
			} else {
				is(t, "a begin", w.begins(t, r, id), api.OK)
			}
			w.two.fair(t, w.q)
		}
		if tickets[0] < 10 && tickets[1] < 10 && w.q.Now() > now/2 {
			t.Errorf("of tickets %v: now is %d: nothing was lowered", tickets, w.q.Now())
		}
		for range 5000 {
			w.act(t, r, 8)
		}
	}
}

// P18.4: rows so long that what Strides are rounded down by adds up.
func TestFairLongRows(t *testing.T) {
	for _, tickets := range [][2]int{{3, 7}, {65521, 65536}, {999, 1000}, {1, 60000}} {
		w := newRow(t, made(t, 3), tickets[0], tickets[1])
		is(t, "Join", w.q.Join(2, 5000), api.OK)
		for range 500000 {
			id, _ := w.q.Pick()
			is(t, "Back", w.q.Back(id), api.OK)
			w.two.fair(t, w.q)
		}
	}
}
