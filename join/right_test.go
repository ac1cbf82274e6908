package join_test

import (
	"fmt"
	"math/rand"
	"slices"
	"strings"
	"testing"

	"wherry/api"
	"wherry/join"
)

// The tests of this file hold Ends against a plain table, by all acts on few threads, and
// by drawn acts, the same ones each time. A call that panicked there would fail them too
// (P1).

// thread is what the table knows of the one that was started last at a place.
type thread struct {
	id, state, value int
}

// wait is that one waits for another one.
type wait struct {
	by, of int
}

// table has no lists of its own for each thread: all that wait stand in one row, in the
// order in which they came.
type table struct {
	threads []thread
	waits   []wait
}

func newTable(threads int) *table {
	return &table{threads: make([]thread, threads)}
}

func (m *table) copied() *table {
	return &table{slices.Clone(m.threads), slices.Clone(m.waits)}
}

// place is that of an id; -1: it is none, or its place isn't there.
func (m *table) place(n int) int {
	if n < 65536 || n/65536 > mostAge || n%65536 >= len(m.threads) {
		return -1
	}
	return n % 65536
}

// at is what is known of an id; nothing: its state is 0.
func (m *table) at(n int) thread {
	if p := m.place(n); p >= 0 && m.threads[p].id == n {
		return m.threads[p]
	}
	return thread{}
}

// placeWaits tells whether one waits that has the place of an id.
func (m *table) placeWaits(n int) bool {
	return slices.ContainsFunc(m.waits, func(w wait) bool { return m.place(w.by) == m.place(n) })
}

// waiting are those that wait for a thread.
func (m *table) waiting(n int) []int {
	var l []int
	for _, w := range m.waits {
		if w.of == n {
			l = append(l, w.by)
		}
	}
	return l
}

func (m *table) start(n int) api.Errno {
	p := m.place(n)
	switch {
	case p < 0:
		return api.ErrRange
	case m.threads[p].state == 1:
		return api.ErrState
	}
	m.threads[p] = thread{n, 1, 0}
	return api.OK
}

func (m *table) end(n, value int) ([]int, api.Errno) {
	if m.at(n).state != 1 {
		return nil, api.ErrNone
	}
	l := m.waiting(n)
	m.waits = slices.DeleteFunc(m.waits, func(w wait) bool { return w.of == n })
	m.threads[m.place(n)] = thread{n, 2, value}
	return l, api.OK
}

func (m *table) join(n, by int) (int, bool, api.Errno) {
	switch there := m.at(n); {
	case m.place(by) < 0:
		return 0, false, api.ErrRange
	case m.placeWaits(by), by == n:
		return 0, false, api.ErrState
	case there.state == 0:
		return 0, false, api.ErrNone
	case there.state == 2:
		return there.value, true, api.OK
	}
	m.waits = append(m.waits, wait{by, n})
	return 0, false, api.OK
}

func (m *table) drop(by int) bool {
	before := len(m.waits)
	m.waits = slices.DeleteFunc(m.waits, func(w wait) bool { return w.by == by })
	return len(m.waits) < before
}

// does does an act, and tells its answer as does tells that of Ends.
func (m *table) does(a act) string {
	n := a.numbers
	switch a.call {
	case "Start":
		return fmt.Sprint(m.start(n[0]))
	case "End":
		got, err := m.end(n[0], n[1])
		return fmt.Sprint(names(got), " ", err)
	case "Join":
		value, now, err := m.join(n[0], n[1])
		return fmt.Sprint(value, now, err)
	}
	return fmt.Sprint(m.drop(n[0]))
}

// told is the table, written as told writes Ends. Tables of which it is the same tell the
// same of all acts.
func (m *table) told() string {
	var parts []string
	for _, known := range m.threads {
		switch known.state {
		case 1:
			parts = append(parts, name(known.id)+":"+names(m.waiting(known.id)))
		case 2:
			parts = append(parts, fmt.Sprint(name(known.id), "=", known.value))
		}
	}
	return strings.Join(parts, " ")
}

// right is what P21.1 and P21.2 say of who waits, asked by what Ends tell alone.
func right(t *testing.T, e *join.Ends, threads int) {
	t.Helper()
	where, states := make(map[int]int), make([]int, threads)
	for _, n := range ids(threads) {
		state, waiters := e.State(n), e.Waiters(n)
		if state != 1 && len(waiters) > 0 {
			t.Errorf("%s, whose state is %d, is waited for by %s", name(n), state, names(waiters))
		}
		if state != 0 {
			states[n%65536]++
		}
		for _, by := range waiters {
			if where[by] != 0 || by == n {
				t.Errorf("%s waits for %s, and for %s", name(by), name(where[by]), name(n))
			}
			where[by] = n
		}
	}
	if slices.Max(states) > 1 {
		t.Errorf("of two at one place something is known")
	}
	for _, n := range ids(threads) {
		if got := e.Where(n); got != where[n] {
			t.Errorf("Where(%s): %s, want %s", name(n), name(got), name(where[n]))
		}
	}
}

// ledger has who was let wait and neither told nor dropped since, and by ids the values of
// those that ended, as answers alone say it.
type ledger struct {
	open   []wait
	values map[int]int
}

func newLedger() *ledger {
	return &ledger{values: make(map[int]int)}
}

func (g *ledger) copied() *ledger {
	other := newLedger()
	other.open = slices.Clone(g.open)
	for n, value := range g.values {
		other.values[n] = value
	}
	return other
}

// close takes one that waits, which must be there just once.
func (g *ledger) close(t *testing.T, by int) {
	t.Helper()
	before := len(g.open)
	g.open = slices.DeleteFunc(g.open, func(w wait) bool { return w.by == by })
	if len(g.open) != before-1 {
		t.Errorf("%s waited %d times", name(by), before-len(g.open))
	}
}

// started forgets the values of those at the place of an id.
func (g *ledger) started(n int) {
	for other := range g.values {
		if other%65536 == n%65536 {
			delete(g.values, other)
		}
	}
}

// ended is that an End told a list: just those that wait for it, in the order in which
// they came, each of which is told by that.
func (g *ledger) ended(t *testing.T, n, value int, told []int) {
	t.Helper()
	var want []int
	for _, w := range g.open {
		if w.of == n {
			want = append(want, w.by)
		}
	}
	if !slices.Equal(told, want) {
		t.Errorf("End(%s): %s, want %s", name(n), names(told), names(want))
	}
	for _, by := range told {
		g.close(t, by)
	}
	g.values[n] = value
}

// joined is that a Join was not refused: behind an end the value is told at once, and only
// then.
func (g *ledger) joined(t *testing.T, n, by, value int, now bool) {
	t.Helper()
	want, there := g.values[n]
	if now != there || value != want {
		t.Errorf("Join(%s, %s): %d, %v, want %d, %v", name(n), name(by), value, now, want, there)
	}
	if !now {
		g.open = append(g.open, wait{by, n})
	}
}

// does does an act, keeps what is told, and tells the answer as does does.
func (g *ledger) does(t *testing.T, e *join.Ends, a act) string {
	t.Helper()
	n := a.numbers
	switch a.call {
	case "Start":
		err := e.Start(n[0])
		if err == api.OK {
			g.started(n[0])
		}
		return fmt.Sprint(err)
	case "End":
		told, err := e.End(n[0], n[1])
		if err == api.OK {
			g.ended(t, n[0], n[1], told)
		}
		return fmt.Sprint(names(told), " ", err)
	case "Join":
		value, now, err := e.Join(n[0], n[1])
		if err == api.OK {
			g.joined(t, n[0], n[1], value, now)
		}
		return fmt.Sprint(value, now, err)
	}
	dropped := e.Drop(n[0])
	if dropped {
		g.close(t, n[0])
	}
	return fmt.Sprint(dropped)
}

// right is what P21.3 says: who was let wait and wasn't told yet waits still, and nobody
// else does.
func (g *ledger) right(t *testing.T, e *join.Ends, threads int) {
	t.Helper()
	waiting := 0
	for _, n := range ids(threads) {
		waiting += len(e.Waiters(n))
	}
	if waiting != len(g.open) {
		t.Errorf("%d wait, want %d", waiting, len(g.open))
	}
	for _, w := range g.open {
		if got := e.Where(w.by); got != w.of {
			t.Errorf("Where(%s): %s, want %s", name(w.by), name(got), name(w.of))
		}
	}
}

// state is Ends, what they should be, and what they told.
type state struct {
	ends   *join.Ends
	table  *table
	ledger *ledger
}

func begin(t *testing.T, threads int) state {
	t.Helper()
	return state{made(t, threads), newTable(threads), newLedger()}
}

func (s state) copied(t *testing.T) state {
	t.Helper()
	return state{copied(t, s.ends), s.table.copied(), s.ledger.copied()}
}

func (s state) threads() int { return len(s.table.threads) }

// does does an act with Ends and table, and looks at the answer.
func (s state) does(t *testing.T, a act) {
	t.Helper()
	want := s.table.does(a)
	if got := s.ledger.does(t, s.ends, a); got != want {
		t.Errorf("%s%v: %s, want %s", a.call, a.numbers, got, want)
	}
}

// holds looks at everything that Ends tell.
func (s state) holds(t *testing.T) {
	t.Helper()
	holds(t, s.ends, s.threads(), s.table.told())
	right(t, s.ends, s.threads())
	s.ledger.right(t, s.ends, s.threads())
}

// allActs are the acts of ids of so many ages and values, and of numbers that Ends don't
// have.
func allActs(threads, ages, values int) []act {
	all := []int{-65536, 0, id(threads, 1)}
	for place := range threads {
		for age := range ages {
			all = append(all, id(place, age+1))
		}
	}
	var l []act
	for _, n := range all {
		l = append(l, an("Start", n), an("Drop", n))
		for value := range values {
			l = append(l, an("End", n, value))
		}
		for _, by := range all {
			l = append(l, an("Join", n, by))
		}
	}
	return l
}

// P21.1, P21.2, P21.3: each act in each state to which acts lead. How many these are is
// reckoned by hand: of each place nothing is known, or that one goes on, or the value with
// which one ended, and each place waits for none, or in a row for one that goes on.
func TestAllActs(t *testing.T) {
	for _, c := range []struct{ threads, ages, values, states int }{
		{1, 1, 1, 3}, {1, 2, 2, 9}, {2, 1, 1, 16}, {2, 2, 2, 265}, {3, 1, 1, 200},
	} {
		first := begin(t, c.threads)
		all := allActs(c.threads, c.ages, c.values)
		met := map[string]bool{first.table.told(): true}
		for todo := []state{first}; len(todo) > 0; todo = todo[1:] {
			from := todo[0]
			for _, a := range all {
				to := from.copied(t)
				to.does(t, a)
				to.holds(t)
				if t.Failed() {
					t.Fatalf("%d: %s%v behind %s", c.threads, a.call, a.numbers, from.table.told())
				}
				if what := to.table.told(); !met[what] {
					met[what] = true
					todo = append(todo, to)
				}
			}
			from.holds(t)
		}
		if len(met) != c.states {
			t.Errorf("%d, %d, %d: %d states, want %d", c.threads, c.ages, c.values, len(met), c.states)
		}
	}
}

// drawn is mostly an id of few ages, and mostly of a place that is there.
func drawn(r *rand.Rand, threads int) int {
	if r.Intn(40) == 0 {
		all := odd(threads)
		return all[r.Intn(len(all))]
	}
	return id(r.Intn(threads), 1+r.Intn(ages))
}

// drawnOf is mostly an id of which something is known, where there is one.
func drawnOf(r *rand.Rand, m *table) int {
	if known := m.threads[r.Intn(len(m.threads))]; known.state != 0 && r.Intn(5) > 0 {
		return known.id
	}
	return drawn(r, len(m.threads))
}

// drawnBy is mostly an id that waits, where there is one.
func drawnBy(r *rand.Rand, m *table) int {
	if len(m.waits) > 0 && r.Intn(3) > 0 {
		return m.waits[r.Intn(len(m.waits))].by
	}
	return drawn(r, len(m.threads))
}

// drawnAct draws an act; of 100 so many are Ends.
func drawnAct(r *rand.Rand, m *table, ends int) act {
	switch n := r.Intn(100); {
	case n < ends:
		return an("End", drawnOf(r, m), []int{lowest, -1, 0, 1, r.Int(), highest}[r.Intn(6)])
	case n < ends+20:
		return an("Start", drawn(r, len(m.threads)))
	case n < ends+30:
		return an("Drop", drawnBy(r, m))
	case n < ends+33:
		n := drawnOf(r, m)
		return an("Join", n, n)
	}
	return an("Join", drawnOf(r, m), drawn(r, len(m.threads)))
}

// P21.1, P21.2, P21.3, P1
func TestDrawnActs(t *testing.T) {
	for seed := range int64(40) {
		r := rand.New(rand.NewSource(seed))
		s := begin(t, 1+r.Intn(9))
		for n := range 800 {
			// By turns many wait, and many end.
			a := drawnAct(r, s.table, 5+30*(n/100%2))
			s.does(t, a)
			s.holds(t)
			if r.Intn(40) == 0 {
				// The copy goes another way, and must leave s alone.
				other := s.copied(t)
				for range 10 {
					other.does(t, drawnAct(r, other.table, 20))
				}
				other.holds(t)
				s.holds(t)
			}
			if t.Failed() {
				t.Fatalf("seed %d: behind %s%v", seed, a.call, a.numbers)
			}
		}
	}
}

// The drawn acts meet each answer of each call, or they would say little.
func TestDrawnActsMeetAll(t *testing.T) {
	met := make(map[string]int)
	for seed := range int64(20) {
		r := rand.New(rand.NewSource(seed))
		s := begin(t, 6)
		for n := range 2000 {
			a := drawnAct(r, s.table, 5+30*(n/100%2))
			answer := s.table.copied().does(a)
			s.does(t, a)
			switch {
			case a.call == "End" && strings.HasSuffix(answer, "] ok"):
				answer = fmt.Sprint(strings.Count(answer, " "))
			case a.call == "Join" && strings.HasSuffix(answer, "true ok"):
				answer = "true ok"
			}
			met[a.call+" "+answer]++
		}
	}
	for _, what := range []string{
		"Start ok", "Start range", "Start state", "End [] none", "End 1", "End 2", "End 3",
		"Join true ok", "Join 0 false ok", "Join 0 false range", "Join 0 false state", "Join 0 false none",
		"Drop true", "Drop false",
	} {
		if met[what] < 50 {
			t.Errorf("%s: met %d times", what, met[what])
		}
	}
	if len(met) > 20 {
		t.Errorf("and more: %v", met)
	}
}

// Copies of copies, each with a table of its own.
func TestDrawnCopies(t *testing.T) {
	r := rand.New(rand.NewSource(21))
	all := make([]state, 4)
	for i := range all {
		all[i] = begin(t, 3+i)
	}
	for n := range 4000 {
		i, j := r.Intn(4), r.Intn(4)
		switch r.Intn(40) {
		case 0:
			all[i] = all[j].copied(t)
		case 1:
			// New ones, now and then, or the copies would all have as many threads.
			all[i] = begin(t, 1+r.Intn(7))
		}
		all[i].does(t, drawnAct(r, all[i].table, 5+30*(n/100%2)))
		for _, s := range all {
			s.holds(t)
		}
		if t.Failed() {
			t.FailNow()
		}
	}
}

// P21.1, P21.2, P21.3: of those with as many places as there may be.
func TestGreatest(t *testing.T) {
	r := rand.New(rand.NewSource(22))
	s := begin(t, mostThreads)
	for place := range mostThreads {
		// Falling places, of all ages.
		s.does(t, an("Start", id(mostThreads-1-place, 1+place%ages)))
	}
	for place := range mostThreads {
		// Eight are waited for, each by many.
		of := s.table.threads[place%8*128].id
		s.does(t, an("Join", of, id(mostThreads-1-place, ages)))
	}
	s.holds(t)
	for n := range 20000 {
		s.does(t, drawnAct(r, s.table, 5+30*(n/2000%2)))
		if n%4000 == 0 {
			s.holds(t)
		}
	}
	s.holds(t)
}

// P21.1, P21.2: all places but one wait for that one, each as far from the one ahead of it
// as it may be.
func TestAllWaitForOne(t *testing.T) {
	e := made(t, mostThreads)
	answers(t, e, an("Start", id(0, 2)), "ok")
	var want []int
	for n := range mostThreads - 1 {
		by := id((n+1)*513%mostThreads, 1+n%ages)
		answers(t, e, an("Join", id(0, 2), by), "0 false ok")
		want = append(want, by)
	}
	if got := e.Waiters(id(0, 2)); !slices.Equal(got, want) {
		t.Fatalf("Waiters: %v, want %v", got, want)
	}
	// Every second one waits no more.
	var left []int
	for n, by := range want {
		if n%2 == 1 {
			left = append(left, by)
			continue
		}
		answers(t, e, an("Drop", by), "true")
	}
	if got, err := e.End(id(0, 2), 5); !slices.Equal(got, left) || err != api.OK {
		t.Fatalf("End: %v, %v, want %v", got, err, left)
	}
	for _, by := range want {
		answers(t, e, an("Join", id(0, 2), by), "5 true ok")
	}
	holds(t, e, mostThreads, "b0=5")
}
