package stride

import (
	"math/rand"
	"testing"
)

// The tests of this file go along rows of picks, as a scheduler with one core makes
// them: of the least pass, which is charged.

// row is threads that can all run all the time.
type row struct {
	tickets []int
	passes  []int
	picks   []int // of each
	last    []int // how many picks there were in all with each one's last one
	all     int
}

// newRow begins with those passes.
func newRow(tickets, passes []int) *row {
	count := len(tickets)
	return &row{tickets, passes, make([]int, count), make([]int, count), 0}
}

// pick tells who is picked, and how many picks it waited for that, its own with them.
func (r *row) pick(t *testing.T) (int, int) {
	first := 0
	for id, pass := range r.passes {
		if Ahead(pass, id, r.passes[first], first) {
			first = id
		}
	}
	pass, ok := Charge(r.passes[first], Stride(r.tickets[first]))
	if !ok || pass <= r.passes[first] {
		t.Fatalf("%v: the pass %d of %d was charged to %d, %v", r.tickets, r.passes[first], first, pass, ok)
	}
	r.all++
	r.passes[first] = pass
	r.picks[first]++
	waited := r.all - r.last[first]
	r.last[first] = r.all
	return first, waited
}

// fair fails if id's picks and another one's are not as their tickets say: by Within,
// and reckoned apart, of counts so small that nothing is too great.
func (r *row) fair(t *testing.T, id int) {
	for other := range r.tickets {
		n1, t1, n2, t2 := r.picks[id], r.tickets[id], r.picks[other], r.tickets[other]
		difference, borne := n1*t2-n2*t1, 2*(t1+t2)
		if !Within(n1, t1, n2, t2, 1) || difference > borne || -difference > borne {
			t.Fatalf("%v: behind %d picks %d has %d, and %d has %d", r.tickets, r.all, id, n1, other, n2)
		}
	}
}

// goOn goes so many picks on. Behind each of them just one thread has more than ahead of
// it, so no other two need be held against each other.
func (r *row) goOn(t *testing.T, count int) {
	t.Helper()
	bounds := make([]int, len(r.tickets))
	for i := range bounds {
		bounds[i] = Bound(r.tickets, i)
	}
	for range count {
		id, waited := r.pick(t)
		if waited > bounds[id] {
			t.Fatalf("%v: %d waited for %d picks, not for %d", r.tickets, id, waited, bounds[id])
		}
		r.fair(t, id)
	}
	for id, bound := range bounds {
		if r.all-r.last[id] >= bound {
			t.Fatalf("%v: %d still waits behind %d picks, not behind %d", r.tickets, id, r.all-r.last[id], bound)
		}
	}
}

// entered are the passes of threads that come at now, wherever they were.
func entered(r *rand.Rand, tickets []int, now int) []int {
	passes := make([]int, len(tickets))
	for i, n := range tickets {
		stride := Stride(n)
		pass := now - One + r.Intn(3*One)
		if r.Intn(3) == 0 {
			// At one end or the other.
			pass = now + r.Intn(2)*One
		}
		passes[i] = Enter(pass, now, stride)
	}
	return passes
}

// The document's second example: behind 30 quanta 10 and 20, one more or less.
func TestTwoThreads(t *testing.T) {
	r := newRow([]int{1, 2}, []int{0, 0})
	r.goOn(t, 30)
	if n := r.picks[0]; n < 9 || n > 11 || r.picks[1] != 30-n {
		t.Errorf("picks: %v", r.picks)
	}
}

// Of like passes the least id comes first, and threads with like tickets by turns.
func TestTurns(t *testing.T) {
	for _, tickets := range []int{1, 3, rich} {
		r := newRow(all(5, tickets), all(5, 0))
		for n := range 1000 {
			if id, _ := r.pick(t); id != n%5 {
				t.Fatalf("pick %d of threads with %d tickets: %d", n, tickets, id)
			}
		}
	}
}

// P17.3, P17.2's Bound: at the ends of tickets and threads.
func TestPicksAtTheEnds(t *testing.T) {
	for _, tickets := range [][]int{
		{1}, {rich}, {1, 1}, {1, rich}, {rich, 1}, {rich, rich}, {rich - 1, rich}, {65521, 65536},
		{1, 2, 3}, {1, 2, 65536}, {1, 32768, 65536}, {2, 3, 5, 7, 11, 13},
		all(many, 1), all(many, rich), with(all(many, rich), many-1, 1), with(all(many, 1), 0, rich),
		with(all(3, rich), 1, 1), {1, 65535, 65534, 65533},
	} {
		newRow(tickets, all(len(tickets), 0)).goOn(t, 50000)
		r := rand.New(rand.NewSource(int64(len(tickets))))
		newRow(tickets, entered(r, tickets, 5*One)).goOn(t, 50000)
	}
}

// P17.3, P17.2's Bound: of any tickets, from any passes on that threads enter with.
func TestDrawnPicks(t *testing.T) {
	r := rand.New(rand.NewSource(8))
	for range 300 {
		tickets := drawnThreads(r)
		now := r.Intn(1<<60) - 1<<59
		newRow(tickets, entered(r, tickets, now)).goOn(t, 3000)
	}
}

// P17.3: from any pick on, not from the first alone.
func TestPicksFromAnyBeginning(t *testing.T) {
	r := rand.New(rand.NewSource(9))
	for range 200 {
		tickets := drawnThreads(r)
		row := newRow(tickets, entered(r, tickets, 0))
		for range 10 {
			row.goOn(t, r.Intn(300))
			clear(row.picks)
		}
	}
}

// P17.3: rows so long that what Strides are rounded down by adds up.
func TestLongRows(t *testing.T) {
	for _, tickets := range [][]int{{3, 7}, {65521, 65536}, {999, 1000, 1001}, {1, 60000}} {
		newRow(tickets, all(len(tickets), 0)).goOn(t, 1000000)
	}
}
