package sema_test

import (
	"fmt"
	"math/rand"
	"slices"
	"strings"
	"testing"

	"wherry/api"
	"wherry/sema"
)

// The tests of this file hold Semas against a plain table, by all acts on few semaphores
// and threads, and by drawn acts, the same ones each time. A call that panicked there
// would fail them too (P1).

// entry is what the table knows of a thread: for which semaphore it waits, as Where tells
// it, and since when.
type entry struct {
	number, since int
}

// table has no lists: who waits is found by when each came.
type table struct {
	values  []int
	threads []entry
	comings int
}

func newTable(objects, threads int) *table {
	return &table{values: make([]int, objects), threads: slices.Repeat([]entry{{number: -1}}, threads)}
}

func (m *table) copied() *table {
	return &table{slices.Clone(m.values), slices.Clone(m.threads), m.comings}
}

// waiting are those that wait for a semaphore, in the order in which they came.
func (m *table) waiting(o int) []int {
	var l []int
	for t, e := range m.threads {
		if e.number == o {
			l = append(l, t)
		}
	}
	slices.SortFunc(l, func(a, b int) int { return m.threads[a].since - m.threads[b].since })
	return l
}

func (m *table) isObject(o int) bool { return o >= 0 && o < len(m.values) }

func (m *table) isThread(t int) bool { return t >= 0 && t < len(m.threads) }

func (m *table) down(o, t int) (bool, api.Errno) {
	switch {
	case !m.isObject(o), !m.isThread(t):
		return false, api.ErrRange
	case m.threads[t].number >= 0:
		return false, api.ErrState
	case m.values[o] > 0:
		m.values[o]--
		return true, api.OK
	}
	m.threads[t] = entry{o, m.comings}
	m.comings++
	return false, api.OK
}

func (m *table) up(o int) (int, api.Errno) {
	if !m.isObject(o) {
		return 0, api.ErrRange
	}
	l := m.waiting(o)
	switch {
	case len(l) > 0:
		m.threads[l[0]].number = -1
		return l[0], api.OK
	case m.values[o] >= mostValue:
		return 0, api.ErrFull
	}
	m.values[o]++
	return -1, api.OK
}

func (m *table) drop(t int) bool {
	if !m.isThread(t) || m.threads[t].number < 0 {
		return false
	}
	m.threads[t].number = -1
	return true
}

// does does an act, and tells its answer as does tells that of Semas.
func (m *table) does(a act) string {
	n := a.numbers
	switch a.call {
	case "Down":
		got, err := m.down(n[0], n[1])
		return fmt.Sprint(got, err)
	case "Up":
		got, err := m.up(n[0])
		return fmt.Sprint(got, err)
	}
	return fmt.Sprint(m.drop(n[0]))
}

// told is the table, written as told writes Semas. Tables of which it is the same tell
// the same of all acts.
func (m *table) told() string {
	var parts []string
	for o, value := range m.values {
		parts = append(parts, fmt.Sprintf("%d%v", value, m.waiting(o)))
	}
	return strings.Join(parts, " ")
}

// alike looks that Semas tell what the table does.
func alike(t *testing.T, s *sema.Semas, m *table) {
	t.Helper()
	holds(t, s, len(m.threads), m.told())
	for thread, e := range m.threads {
		if got := s.Where(thread); got != e.number {
			t.Errorf("Where(%d): %d, want %d", thread, got, e.number)
		}
	}
}

// right is what P20.2 says of who waits, and that each waits at one place, asked by what
// Semas tell alone.
func right(t *testing.T, s *sema.Semas, objects, threads int) {
	t.Helper()
	where := slices.Repeat([]int{-1}, threads)
	for o := range objects {
		value, waiters := s.Value(o), s.Waiters(o)
		if value > 0 && len(waiters) > 0 {
			t.Errorf("semaphore %d is %d, and %v wait for it", o, value, waiters)
		}
		if value < 0 || value > mostValue {
			t.Errorf("semaphore %d is %d", o, value)
		}
		for _, thread := range waiters {
			if where[thread] != -1 {
				t.Errorf("%d waits for %d, and for %d", thread, where[thread], o)
			}
			where[thread] = o
		}
	}
	for thread, o := range where {
		if got := s.Where(thread); got != o {
			t.Errorf("Where(%d): %d, want %d", thread, got, o)
		}
	}
}

// ledger counts by semaphores the Ups, and the Downs that were let through: at once, or
// by an Up.
type ledger struct {
	ups, through []int
}

func newLedger(objects int) *ledger {
	return &ledger{make([]int, objects), make([]int, objects)}
}

func (g *ledger) copied() *ledger {
	return &ledger{slices.Clone(g.ups), slices.Clone(g.through)}
}

// does does an act, and counts by its answer.
func (g *ledger) does(t *testing.T, s *sema.Semas, a act, want string) {
	t.Helper()
	answer := does(s, a)
	if answer != want {
		t.Errorf("%s%v: %s, want %s", a.call, a.numbers, answer, want)
	}
	switch {
	case a.call == "Down" && answer == "true ok":
		g.through[a.numbers[0]]++
	case a.call == "Up" && strings.HasSuffix(answer, " ok"):
		g.ups[a.numbers[0]]++
		if answer != "-1 ok" {
			g.through[a.numbers[0]]++
		}
	}
}

// right is what P20.2 says of Downs and Ups: the value is how many more these were.
func (g *ledger) right(t *testing.T, s *sema.Semas) {
	t.Helper()
	for o := range g.ups {
		if g.through[o] > g.ups[o] {
			t.Errorf("semaphore %d: %d Downs were let through, of %d Ups", o, g.through[o], g.ups[o])
		}
		if got := s.Value(o); got != g.ups[o]-g.through[o] {
			t.Errorf("semaphore %d is %d behind %d Ups and %d Downs", o, got, g.ups[o], g.through[o])
		}
	}
}

// allActs are the acts of numbers from one below the first to one behind the last.
func allActs(objects, threads int) []act {
	var l []act
	for n := -1; n <= objects; n++ {
		l = append(l, an("Up", n))
		for thread := -1; thread <= threads; thread++ {
			l = append(l, an("Down", n, thread))
		}
	}
	for thread := -1; thread <= threads; thread++ {
		l = append(l, an("Drop", thread))
	}
	return l
}

// state is Semas, what they should be, and what led to them.
type state struct {
	semas  *sema.Semas
	table  *table
	ledger *ledger
}

func begin(t *testing.T, objects, threads int) state {
	t.Helper()
	return state{made(t, objects, threads), newTable(objects, threads), newLedger(objects)}
}

func (s state) copied(t *testing.T) state {
	t.Helper()
	return state{copied(t, s.semas), s.table.copied(), s.ledger.copied()}
}

// does does an act with Semas and table, and looks at the answer.
func (s state) does(t *testing.T, a act) {
	t.Helper()
	s.ledger.does(t, s.semas, a, s.table.does(a))
}

// holds looks at everything that Semas tell.
func (s state) holds(t *testing.T) {
	t.Helper()
	alike(t, s.semas, s.table)
	right(t, s.semas, len(s.table.values), len(s.table.threads))
	s.ledger.right(t, s.semas)
}

// P20.1, P20.2: each act in each state to which acts lead, up to values of 2. How many
// these are is reckoned by hand: each semaphore has a value above 0, or a row of threads.
func TestAllActs(t *testing.T) {
	const greatest = 2
	for _, c := range []struct{ objects, threads, states int }{
		{1, 1, 4}, {1, 2, 7}, {1, 3, 18}, {1, 4, 67}, {2, 1, 15}, {2, 2, 35}, {2, 3, 117}, {3, 2, 153},
	} {
		first := begin(t, c.objects, c.threads)
		all := allActs(c.objects, c.threads)
		met := map[string]int{first.table.told(): 1}
		for todo := []state{first}; len(todo) > 0; todo = todo[1:] {
			from := todo[0]
			for _, a := range all {
				to := from.copied(t)
				to.does(t, a)
				to.holds(t)
				if t.Failed() {
					t.Fatalf("%d, %d: %s%v behind %s", c.objects, c.threads, a.call, a.numbers, from.table.told())
				}
				if slices.Max(to.table.values) > greatest {
					continue
				}
				if met[to.table.told()]++; met[to.table.told()] == 1 {
					todo = append(todo, to)
				}
			}
			from.holds(t)
		}
		if len(met) != c.states {
			t.Errorf("%d, %d: %d states, want %d", c.objects, c.threads, len(met), c.states)
		}
	}
}

// drawn is mostly a number below most.
func drawn(r *rand.Rand, most int) int {
	if r.Intn(30) > 0 {
		return r.Intn(most)
	}
	return []int{lowest, -1, most, highest}[r.Intn(4)]
}

// drawnAct draws an act; of 100 that name a semaphore so many are Ups.
func drawnAct(r *rand.Rand, m *table, ups int) act {
	o, t := drawn(r, len(m.values)), drawn(r, len(m.threads))
	switch {
	case r.Intn(8) == 0:
		return an("Drop", t)
	case r.Intn(100) < ups:
		return an("Up", o)
	}
	return an("Down", o, t)
}

// P20.1, P20.2, P1
func TestDrawnActs(t *testing.T) {
	for seed := range int64(40) {
		r := rand.New(rand.NewSource(seed))
		s := begin(t, 1+r.Intn(4), 1+r.Intn(9))
		for n := range 800 {
			// By turns values grow and rows do.
			a := drawnAct(r, s.table, 25+50*(n/100%2))
			s.does(t, a)
			s.holds(t)
			if r.Intn(40) == 0 {
				// The copy goes another way, and must leave s alone.
				other := s.copied(t)
				for range 10 {
					other.does(t, drawnAct(r, other.table, 50))
				}
				other.holds(t)
				s.holds(t)
			}
			if t.Failed() {
				t.Fatalf("seed %d: behind %s%v", seed, a.call, a.numbers)
			}
		}
	}
}

// The drawn acts meet each answer of each call, or they would say little.
func TestDrawnActsMeetAll(t *testing.T) {
	met := make(map[string]int)
	for seed := range int64(20) {
		r := rand.New(rand.NewSource(seed))
		s := begin(t, 3, 6)
		for n := range 2000 {
			a := drawnAct(r, s.table, 25+50*(n/100%2))
			answer := s.table.copied().does(a)
			s.does(t, a)
			if a.call == "Up" && answer[0] >= '0' && answer[0] <= '9' && strings.HasSuffix(answer, "ok") {
				answer = "one ok"
			}
			met[a.call+" "+answer]++
		}
	}
	for _, what := range []string{
		"Down true ok", "Down false ok", "Down false range", "Down false state",
		"Up one ok", "Up -1 ok", "Up 0 range", "Drop true", "Drop false",
	} {
		if met[what] < 50 {
			t.Errorf("%s: met %d times", what, met[what])
		}
		delete(met, what)
	}
	if len(met) > 0 {
		t.Errorf("and these: %v", met)
	}
}

// P20.1, P20.2: drawn acts about the greatest value, which Ups alone reach.
func TestDrawnActsAboutTheGreatest(t *testing.T) {
	r := rand.New(rand.NewSource(20))
	s := begin(t, 2, 3)
	for s.table.values[1] < mostValue-3 {
		s.table.values[1]++
		s.ledger.ups[1]++
		s.semas.Up(1)
	}
	full := 0
	for n := range 4000 {
		a := drawnAct(r, s.table, 40+20*(n/40%2))
		if answer := s.table.copied().does(a); answer == "0 full" {
			full++
		}
		s.does(t, a)
		s.holds(t)
		if t.Failed() {
			t.Fatalf("behind %s%v", a.call, a.numbers)
		}
	}
	if full < 50 {
		t.Errorf("full: met %d times", full)
	}
}

// Copies of copies, each with a table of its own.
func TestDrawnCopies(t *testing.T) {
	r := rand.New(rand.NewSource(21))
	all := make([]state, 4)
	for i := range all {
		all[i] = begin(t, 1+i, 3+i)
	}
	for n := range 4000 {
		i, j := r.Intn(4), r.Intn(4)
		switch r.Intn(40) {
		case 0:
			all[i] = all[j].copied(t)
		case 1:
			// New ones, now and then, or the copies would all have as many threads.
			all[i] = begin(t, 1+r.Intn(4), 1+r.Intn(7))
		}
		all[i].does(t, drawnAct(r, all[i].table, 25+50*(n/100%2)))
		for _, s := range all {
			s.holds(t)
		}
		if t.Failed() {
			t.FailNow()
		}
	}
}

// P20.1, P20.2: of those with as many semaphores and threads as there may be.
func TestGreatest(t *testing.T) {
	r := rand.New(rand.NewSource(22))
	s := begin(t, mostObjects, mostThreads)
	for thread := range mostThreads {
		// Falling threads, and each semaphore has many.
		s.does(t, an("Down", thread%mostObjects, mostThreads-1-thread))
	}
	s.holds(t)
	for n := range 20000 {
		s.does(t, drawnAct(r, s.table, 25+50*(n/2000%2)))
		if n%1000 == 0 {
			s.holds(t)
		}
	}
	s.holds(t)
}

// P20.1: all threads wait for one semaphore, each as far from the one ahead of it as it
// may be, and go on one by one.
func TestAllWaitForOne(t *testing.T) {
	s := made(t, mostObjects, mostThreads)
	var want []int
	for n := range mostThreads {
		thread := n * 513 % mostThreads
		answers(t, s, an("Down", mostObjects-1, thread), "false ok")
		want = append(want, thread)
	}
	for i, thread := range want {
		if got := s.Waiters(mostObjects - 1); !slices.Equal(got, want[i:]) {
			t.Fatalf("Waiters: %v, want %v", got, want[i:])
		}
		answers(t, s, an("Up", mostObjects-1), fmt.Sprint(thread, api.OK))
	}
	holds(t, s, mostThreads, fresh(mostObjects))
}
