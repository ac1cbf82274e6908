package ready

import (
	"math/rand"
	"slices"
	"testing"

	"wherry/api"
)

// The tests of this file hold a Queue against a plain table of threads, by drawn calls,
// the same ones each time. A call that panicked there would fail them too (P1).

// entry is what the table knows of an id; state 0 means that it is not here.
type entry struct {
	state, step, pass, picks int
}

type table struct {
	now     int
	entries []entry
}

func newTable(most int) *table {
	return &table{entries: make([]entry, most)}
}

func (m *table) copied() *table {
	return &table{m.now, slices.Clone(m.entries)}
}

func (m *table) join(id, tickets int) api.Errno {
	switch {
	case id < 0 || id >= len(m.entries):
		return api.ErrRange
	case tickets < 1 || tickets > 65536:
		return api.ErrArg
	case m.entries[id].state != 0:
		return api.ErrState
	}
	m.entries[id] = entry{state: 1, step: 1 << 40 / tickets, pass: m.now}
	return api.OK
}

// next goes over all, from the least id on.
func (m *table) next() int {
	first := -1
	for id, e := range m.entries {
		if e.state == 1 && (first < 0 || e.pass < m.entries[first].pass) {
			first = id
		}
	}
	return first
}

func (m *table) lower() int {
	by := m.now
	for _, e := range m.entries {
		if e.state != 0 && e.pass < lowest+by {
			return 0
		}
	}
	for id, e := range m.entries {
		if e.state != 0 {
			m.entries[id].pass = e.pass - by
		}
	}
	m.now = 0
	return by
}

func (m *table) pick() (int, bool) {
	if m.now > 1<<60 {
		m.lower()
	}
	id := m.next()
	if id < 0 {
		return 0, false
	}
	e := &m.entries[id]
	m.now = max(m.now, e.pass)
	e.state = 2
	e.picks++
	if e.pass > highest-e.step {
		e.pass = highest
	} else {
		e.pass += e.step
	}
	return id, true
}

// goes is a call of one id that may come from those states alone.
func (m *table) goes(id, to int, last api.Errno, from ...int) api.Errno {
	switch {
	case id < 0 || id >= len(m.entries):
		return api.ErrRange
	case !slices.Contains(from, m.entries[id].state):
		return last
	}
	e := &m.entries[id]
	switch {
	case to == 0:
		*e = entry{}
	case to == 1 && e.pass < m.now:
		e.pass = m.now
	case to == 1 && e.pass > m.now && e.pass-m.now > e.step:
		e.pass = m.now + e.step
	}
	e.state = to
	return api.OK
}

// all are those that are here.
func (m *table) all() []here {
	var l []here
	for id, e := range m.entries {
		if e.state != 0 {
			l = append(l, here{id, e.state, e.pass, e.picks})
		}
	}
	return l
}

// drawnID is mostly one of the ids that there are.
func drawnID(r *rand.Rand, m *table) int {
	if r.Intn(20) > 0 {
		return r.Intn(len(m.entries))
	}
	return []int{lowest, -1, len(m.entries), highest}[r.Intn(4)]
}

// drawnTickets are often few, or at the ends.
func drawnTickets(r *rand.Rand) int {
	switch r.Intn(8) {
	case 0:
		return []int{lowest, -1, 0, rich + 1, highest}[r.Intn(5)]
	case 1:
		return []int{1, 2, rich - 1, rich}[r.Intn(4)]
	case 2:
		return 1 + r.Intn(rich)
	}
	return 1 + r.Intn(9)
}

// does makes one drawn call to both, and tells its name and what the Queue answered.
func does(t *testing.T, r *rand.Rand, q *Queue, m *table) (string, string) {
	t.Helper()
	id := drawnID(r, m)
	var name string
	var got, want api.Errno
	switch r.Intn(20) {
	case 0, 1, 2:
		tickets := drawnTickets(r)
		name, got, want = "Join", q.Join(id, tickets), m.join(id, tickets)
	case 3, 4, 5, 6, 7:
		id, ok := m.pick()
		picks(t, q, id, ok)
		if !ok {
			return "Pick", "none"
		}
		return "Pick", "ok"
	case 8:
		name, got, want = "Take", q.Take(id), m.goes(id, 2, api.ErrState, 1)
	case 9, 10, 11, 12, 13:
		name, got, want = "Back", q.Back(id), m.goes(id, 1, api.ErrState, 2)
	case 14, 15:
		name, got, want = "Block", q.Block(id), m.goes(id, 3, api.ErrState, 2)
	case 16, 17:
		name, got, want = "Wake", q.Wake(id), m.goes(id, 1, api.ErrState, 3)
	case 18:
		name, got, want = "Resume", q.Resume(id), m.goes(id, 2, api.ErrState, 3)
	default:
		if r.Intn(3) == 0 {
			by := m.lower()
			lowers(t, q, by)
			if by == 0 {
				return "Lower", "none"
			}
			return "Lower", "ok"
		}
		name, got, want = "Drop", q.Drop(id), m.goes(id, 0, api.ErrNone, 1, 2, 3)
	}
	is(t, name, got, want)
	return name, got.Error()
}

// goesAlong makes so many drawn calls, and looks at everything behind each.
func goesAlong(t *testing.T, r *rand.Rand, q *Queue, m *table, count int) {
	t.Helper()
	for range count {
		does(t, r, q, m)
		holds(t, q, m.now, m.all()...)
		if r.Intn(40) == 0 {
			// The copy goes another way, and must leave q alone.
			other, its := q.Copy(), m.copied()
			for range 10 {
				does(t, r, other, its)
			}
			holds(t, other, its.now, its.all()...)
			holds(t, q, m.now, m.all()...)
		}
		if t.Failed() {
			t.FailNow()
		}
	}
}

// P18.1, P18.2, P18.3, P1
func TestDrawnCalls(t *testing.T) {
	for seed := range int64(40) {
		r := rand.New(rand.NewSource(seed))
		most := 1 + r.Intn(9)
		goesAlong(t, r, made(t, most), newTable(most), 1000)
	}
}

// The drawn calls meet each answer of each call, or they would say little.
func TestDrawnCallsMeetAll(t *testing.T) {
	met := make(map[string]int)
	for seed := range int64(20) {
		r := rand.New(rand.NewSource(seed))
		q, m := made(t, 6), newTable(6)
		for range 2000 {
			name, answer := does(t, r, q, m)
			met[name+" "+answer]++
		}
	}
	for _, what := range []string{
		"Join ok", "Join range", "Join arg", "Join state", "Pick ok", "Pick none",
		"Take ok", "Take range", "Take state", "Back ok", "Back range", "Back state",
		"Block ok", "Block range", "Block state", "Wake ok", "Wake range", "Wake state",
		"Resume ok", "Resume range", "Resume state", "Drop ok", "Drop range", "Drop none", "Lower ok", "Lower none",
	} {
		if met[what] < 5 {
			t.Errorf("%s: met %d times", what, met[what])
		}
		delete(met, what)
	}
	if len(met) > 0 {
		t.Errorf("and these: %v", met)
	}
}

// Copies of copies, each with a table of its own.
func TestDrawnCopies(t *testing.T) {
	r := rand.New(rand.NewSource(18))
	queues := make([]*Queue, 4)
	tables := make([]*table, 4)
	for i := range queues {
		queues[i], tables[i] = made(t, 2+i), newTable(2+i)
	}
	for range 5000 {
		i, j := r.Intn(4), r.Intn(4)
		switch r.Intn(30) {
		case 0:
			queues[i], tables[i] = queues[j].Copy(), tables[j].copied()
		case 1:
			// New ones, now and then, or the copies would all have as many ids.
			most := 1 + r.Intn(7)
			queues[i], tables[i] = made(t, most), newTable(most)
		}
		does(t, r, queues[i], tables[i])
		for k, q := range queues {
			holds(t, q, tables[k].now, tables[k].all()...)
		}
		if t.Failed() {
			t.FailNow()
		}
	}
}

// P18.2, P18.3: of one with as many ids as there may be.
func TestGreatest(t *testing.T) {
	const most = 4096
	r := rand.New(rand.NewSource(19))
	q, m := made(t, most), newTable(most)
	for id := range most {
		tickets := 1 + r.Intn(rich)
		is(t, "Join", q.Join(id, tickets), m.join(id, tickets))
	}
	for n := range 20000 {
		does(t, r, q, m)
		if n%2000 == 0 {
			holds(t, q, m.now, m.all()...)
		}
	}
	holds(t, q, m.now, m.all()...)
}

// climb brings now as many Strides on: a thread comes, is picked again and again, and
// goes. Now must not be above 2^60 ahead of the last pick.
func climb(t *testing.T, q *Queue, tickets, count int) {
	t.Helper()
	is(t, "Join", q.Join(0, tickets), api.OK)
	picks(t, q, 0, true)
	for range count {
		if err := q.Back(0); err != api.OK {
			t.Fatalf("Back: %v", err)
		}
		if id, ok := q.Pick(); id != 0 || !ok {
			t.Fatalf("Pick: %d, %v", id, ok)
		}
	}
	is(t, "Drop", q.Drop(0), api.OK)
}

// twoSteps are tickets whose Strides' sum is that number, but for whole 2^24, of which
// Strides of powers of two make the rest.
func twoSteps(t *testing.T, number int) (int, int) {
	t.Helper()
	const part = 1 << 24
	of := make(map[int]int)
	for tickets := 1; tickets <= rich; tickets++ {
		of[one/tickets%part] = tickets
	}
	for a := 1; a <= rich; a++ {
		want := ((number-one/a)%part + part) % part
		if b := of[want]; b > 0 {
			return a, b
		}
	}
	t.Fatalf("no two Strides make %d", number)
	return 0, 0
}

// raised is a Queue where nobody is, and now is that number, from 2^42 to 2^60 and
// 2^40, brought there by calls alone.
func raised(t *testing.T, most, now int) *Queue {
	t.Helper()
	q := made(t, most)
	a, b := twoSteps(t, now)
	climb(t, q, a, 1)
	climb(t, q, b, 1)
	left := now - q.Now()
	for tickets := rich; tickets > 1; tickets /= 2 {
		climb(t, q, tickets, left/(one/tickets)%2)
	}
	climb(t, q, 1, left/one)
	holds(t, q, now)
	return q
}

// P18.3: now is brought to 2^60, and about it, by calls alone.
func TestPickAboutFar(t *testing.T) {
	const far = 1 << 60
	for _, now := range []int{far - 1, far, far + 1, far + one - 1, far + one} {
		begin := raised(t, 8, now)
		m := &table{now: now, entries: make([]entry, 8)}
		// Nobody waits: it is lowered all the same.
		left := now
		if now > far {
			left = 0
		}
		q := begin.Copy()
		picks(t, q, 0, false)
		holds(t, q, left)
		// Two that came there, one that runs, and one that is blocked.
		q = begin.Copy()
		for id := range 4 {
			comes(t, q, id, 2, []int{1, 1, 2, 3}[id])
		}
		picks(t, q, 0, true)
		holds(t, q, left, here{0, 2, left + one/2, 1}, here{1, 1, left, 0}, here{2, 2, left, 0}, here{3, 3, left, 0})
		for seed := range int64(10) {
			goesAlong(t, rand.New(rand.NewSource(seed)), begin.Copy(), m.copied(), 400)
		}
	}
}

// P18.3: a thread that is blocked for long is lowered again and again, until its pass
// would be too small: from there on nothing is lowered, until it comes back.
func TestLowerUntilTooSmall(t *testing.T) {
	const cycle = 1<<60 + one // how much Pick lowers by at once here
	q, m := made(t, 3), newTable(3)
	comes(t, q, 2, 1, 3)
	m.entries[2] = entry{state: 3, step: one}
	is(t, "Join", q.Join(0, 1), m.join(0, 1))
	goOn := func(count int) {
		for range count {
			wantID, _ := m.pick()
			m.goes(wantID, 1, api.ErrState, 2)
			if id, ok := q.Pick(); id != wantID || !ok || q.Back(id) != api.OK || q.Now() != m.now || q.Picks(id) != m.entries[id].picks {
				t.Fatalf("Pick: %d, %v, now %d, want %d, now %d", id, ok, q.Now(), wantID, m.now)
			}
		}
		holds(t, q, m.now, m.all()...)
	}
	goOn(1<<20 + 2)
	for n := range 7 {
		tells(t, q, here{2, 3, -n * cycle, 0})
		goOn(1)
		tells(t, q, here{2, 3, -(n + 1) * cycle, 0})
		goOn(1 << 20)
	}
	// Now is as great again, but 2's pass can't be lowered by it.
	goOn(1)
	tells(t, q, here{2, 3, -7 * cycle, 0})
	if q.Now() != cycle+one {
		t.Errorf("Now: %d", q.Now())
	}
	goOn(1 << 19)
	lowers(t, q, 0)
	holds(t, q, m.now, m.all()...)
	for seed := range int64(5) {
		goesAlong(t, rand.New(rand.NewSource(seed)), q.Copy(), m.copied(), 300)
	}
	is(t, "Wake", q.Wake(2), m.goes(2, 1, api.ErrState, 3))
	goOn(1)
	if q.Now() != 0 {
		t.Errorf("Now: %d, want 0", q.Now())
	}
	goOn(1000)
}
