package thread_test

import (
	"fmt"
	"math/rand"
	"slices"
	"strings"
	"testing"

	"wherry/api"
	"wherry/thread"
)

// The tests of this file hold a Table against a plain one, by all acts on few threads, and
// by drawn acts, the same ones each time. A call that panicked there would fail them too
// (P1).

// plain is what the plain table knows of a thread.
type plain struct {
	id, state, tickets, context, done int
}

// table is a row of all threads that ever were; those that are no more have no state.
type table struct {
	most    int
	threads []plain
}

func newTable(most int) *table {
	return &table{most: most}
}

func (m *table) copied() *table {
	return &table{m.most, slices.Clone(m.threads)}
}

// at is where in the row the thread of an id stands; -1: there is none any more.
func (m *table) at(n int) int {
	return slices.IndexFunc(m.threads, func(p plain) bool { return p.id == n && p.state != 0 })
}

// next is the id that the next one has: of the least place that nobody has, of which the
// age is one more than those of all that were there; 0: there is no room.
func (m *table) next() int {
	for place := range m.most {
		age, live := 1, false
		for _, p := range m.threads {
			if p.id%65536 == place {
				age++
				live = live || p.state != 0
			}
		}
		if !live {
			return id(place, age)
		}
	}
	return 0
}

func (m *table) spawn(context, tickets int) (int, api.Errno) {
	n := m.next()
	switch {
	case tickets < 1 || tickets > 65536:
		return 0, api.ErrArg
	case n == 0:
		return 0, api.ErrFull
	}
	m.threads = append(m.threads, plain{n, 1, tickets, context, 0})
	return n, api.OK
}

func (m *table) keep(n, context, more int) api.Errno {
	i := m.at(n)
	if i < 0 {
		return api.ErrNone
	}
	m.threads[i].context = context
	m.threads[i].done += more
	return api.OK
}

// ways are the chapter's changes, a row each: a call, and the numbers of the states from
// which and to which it leads.
var ways = []struct {
	call     string
	from, to int
}{
	{"Run", 1, 2},
	{"Yield", 2, 1},
	{"Wait", 2, 3},
	{"Trap", 2, 4},
	{"Wake", 3, 1},
	{"Wake", 4, 1},
	{"Back", 4, 2},
	{"End", 2, 0},
}

func (m *table) change(call string, n int) api.Errno {
	i := m.at(n)
	if i < 0 {
		return api.ErrNone
	}
	for _, w := range ways {
		if w.call == call && w.from == m.threads[i].state {
			m.threads[i].state = w.to
			return api.OK
		}
	}
	return api.ErrState
}

// does does an act, and tells its answer as does tells that of a Table.
func (m *table) does(a act) string {
	n := a.numbers
	switch a.call {
	case "Spawn":
		got, err := m.spawn(n[0], n[1])
		return fmt.Sprint(name(got), " ", err)
	case "Set":
		return fmt.Sprint(m.keep(n[0], n[1], 0))
	case "Did":
		return fmt.Sprint(m.keep(n[0], n[1], 1))
	}
	return fmt.Sprint(m.change(a.call, n[0]))
}

// live are the threads that there are, by rising ids.
func (m *table) live() []plain {
	l := slices.DeleteFunc(slices.Clone(m.threads), func(p plain) bool { return p.state == 0 })
	slices.SortFunc(l, func(a, b plain) int { return a.id - b.id })
	return l
}

// told is the table, written as all writes threads.
func (m *table) told() string {
	var parts []string
	for _, p := range m.live() {
		parts = append(parts, fmt.Sprint(name(p.id), " ", states[p.state], " ", p.tickets, " ", p.context, " ", p.done))
	}
	return strings.Join(parts, ", ")
}

// ages are how many were at each place. Tables of which these and told are the same tell
// the same of all acts.
func (m *table) ages() []int {
	l := make([]int, m.most)
	for _, p := range m.threads {
		l[p.id%65536]++
	}
	return l
}

// right is P22.3, asked by what a Table tells alone: each thread is in one of the states,
// and the states together have as many as there are. Ids rise, and no two have one place.
func right(t *testing.T, x *thread.Table, most int) {
	t.Helper()
	l := x.All()
	counts, places := make(map[int]int), make(map[int]int)
	for i, th := range l {
		counts[th.State]++
		places[th.Id%65536]++
		if places[th.Id%65536] > 1 || th.Id%65536 >= most || i > 0 && th.Id <= l[i-1].Id {
			t.Errorf("All: %s", all(l))
		}
	}
	together := 0
	for state := 1; state <= 4; state++ {
		got := x.Count(state)
		together += got
		if got != counts[state] {
			t.Errorf("Count(%d): %d of %s", state, got, all(l))
		}
	}
	if together != len(l) || len(l) > most {
		t.Errorf("%d are in a state, %d are there, and %d may be", together, len(l), most)
	}
}

// ledger has how many are in each state, as answers alone say it, and all ids that were
// given.
type ledger struct {
	states map[int]int // by ids
	given  map[int]bool
}

func newLedger() *ledger {
	return &ledger{make(map[int]int), make(map[int]bool)}
}

func (g *ledger) copied() *ledger {
	other := newLedger()
	for n, state := range g.states {
		other.states[n] = state
	}
	for n := range g.given {
		other.given[n] = true
	}
	return other
}

// does does an act, keeps what is told, and tells the answer as does does.
func (g *ledger) does(t *testing.T, x *thread.Table, a act) string {
	t.Helper()
	n := a.numbers
	if a.call == "Spawn" {
		got, err := x.Spawn(context(n[0]), n[1])
		if err == api.OK {
			if g.given[got] {
				t.Errorf("Spawn: %s once more", name(got))
			}
			g.given[got], g.states[got] = true, 1
		}
		return fmt.Sprint(name(got), " ", err)
	}
	answer := does(x, a)
	if answer == "ok" && a.call != "Set" && a.call != "Did" {
		g.changed(t, a.call, n[0])
	}
	return answer
}

// changed is that a change was done: it must be one that leads on from where the one
// before led.
func (g *ledger) changed(t *testing.T, call string, n int) {
	t.Helper()
	for _, w := range ways {
		if w.call == call && w.from == g.states[n] {
			g.states[n] = w.to
			if w.to == 0 {
				delete(g.states, n)
			}
			return
		}
	}
	t.Errorf("%s(%s), which was %d", call, name(n), g.states[n])
}

// right is P22.3: what is told of states is what the answers said.
func (g *ledger) right(t *testing.T, x *thread.Table) {
	t.Helper()
	counts := make(map[int]int)
	for n, state := range g.states {
		counts[state]++
		if got, ok := x.Get(n); !ok || got.State != state {
			t.Errorf("Get(%s): %d, %v, want %d", name(n), got.State, ok, state)
		}
	}
	for state := range 6 {
		if got := x.Count(state); got != counts[state] {
			t.Errorf("Count(%d): %d, want %d", state, got, counts[state])
		}
	}
	if got := len(x.All()); got != len(g.states) {
		t.Errorf("All: %d, want %d", got, len(g.states))
	}
}

// state is a Table, what it should be, and what it told.
type state struct {
	x      *thread.Table
	table  *table
	ledger *ledger
}

func begin(t *testing.T, most int) state {
	t.Helper()
	return state{made(t, most), newTable(most), newLedger()}
}

func (s state) copied(t *testing.T) state {
	t.Helper()
	return state{copied(t, s.x), s.table.copied(), s.ledger.copied()}
}

// does does an act with Table and table, and looks at the answer.
func (s state) does(t *testing.T, a act) {
	t.Helper()
	want := s.table.does(a)
	if got := s.ledger.does(t, s.x, a); got != want {
		t.Errorf("%s%v: %s, want %s", a.call, a.numbers, got, want)
	}
}

// holds looks at everything that a Table tells.
func (s state) holds(t *testing.T) {
	t.Helper()
	holds(t, s.x, s.table.most, s.table.told())
	right(t, s.x, s.table.most)
	s.ledger.right(t, s.x)
}

// bounds are how far TestAllActs goes: how many contexts and tickets there are, how old
// ids grow, and how much is done.
type bounds struct {
	most, ages, tickets, contexts, done int
}

// acts are those of the ids within bounds, and of numbers that are none.
func (b bounds) acts() []act {
	l := []act{an("Spawn", 0, 0), an("Spawn", 0, mostTickets+1)}
	for tickets := range b.tickets {
		for context := range b.contexts {
			l = append(l, an("Spawn", context, tickets+1))
		}
	}
	all := []int{-65536, 0, id(b.most, 1)}
	for place := range b.most {
		for age := range b.ages + 1 {
			all = append(all, id(place, age+1))
		}
	}
	for _, n := range all {
		for context := range b.contexts {
			l = append(l, an("Set", n, context), an("Did", n, context))
		}
		for _, call := range changeNames {
			l = append(l, an(call, n))
		}
	}
	return l
}

// beyond tells whether a table is beyond the bounds.
func (b bounds) beyond(m *table) bool {
	return slices.Max(m.ages()) > b.ages || slices.ContainsFunc(m.threads, func(p plain) bool { return p.done > b.done })
}

// P22.1, P22.2, P22.3: each act in each state to which acts lead within bounds. How many
// these are is reckoned by hand: each place was never had, or it has so old a thread, in
// one of four states, with tickets, a context and something done, or so old a one is no
// more there; and a place was had only if those below it were.
func TestAllActs(t *testing.T) {
	for _, c := range []struct {
		bounds
		states int
	}{
		{bounds{1, 1, 1, 1, 0}, 1 + 5},
		{bounds{1, 3, 1, 1, 0}, 1 + 15},
		{bounds{2, 1, 1, 1, 0}, 1 + 5 + 5*5},
		{bounds{3, 1, 1, 1, 0}, 1 + 5 + 5*5 + 5*5*5},
		{bounds{2, 2, 1, 1, 0}, 1 + 10 + 10*10},
		{bounds{1, 2, 2, 2, 1}, 1 + 2*(4*2*2*2+1)},
		{bounds{2, 1, 1, 2, 1}, 1 + 17 + 17*17},
	} {
		first := begin(t, c.most)
		met := map[string]bool{fmt.Sprint(first.table.told(), first.table.ages()): true}
		all := c.acts()
		for todo := []state{first}; len(todo) > 0; todo = todo[1:] {
			from := todo[0]
			for _, a := range all {
				to := from.copied(t)
				to.does(t, a)
				to.holds(t)
				if t.Failed() {
					t.Fatalf("%v: %s%v behind %s", c, a.call, a.numbers, from.table.told())
				}
				what := fmt.Sprint(to.table.told(), to.table.ages())
				if !met[what] && !c.beyond(to.table) {
					met[what] = true
					todo = append(todo, to)
				}
			}
			from.holds(t)
		}
		if len(met) != c.states {
			t.Errorf("%v: %d states, want %d", c, len(met), c.states)
		}
	}
}

// drawn is mostly the id of a thread that there is, where there is one.
func drawn(r *rand.Rand, m *table) int {
	l := m.live()
	switch n := r.Intn(40); {
	case n == 0:
		all := odd(m.most)
		return all[r.Intn(len(all))]
	case n < 5 || len(l) == 0:
		return id(r.Intn(m.most+1), 1+r.Intn(ages))
	}
	return l[r.Intn(len(l))].id
}

// drawnAct draws an act; of 100 so many are Spawns.
func drawnAct(r *rand.Rand, m *table, spawns int) act {
	switch n := r.Intn(100); {
	case n < 2:
		return an("Spawn", r.Intn(100), []int{lowest, -1, 0, mostTickets + 1, highest}[r.Intn(5)])
	case n < spawns:
		return an("Spawn", r.Intn(100), []int{1, 2, mostTickets, 1 + r.Intn(mostTickets)}[r.Intn(4)])
	case n < spawns+8:
		return an("Set", drawn(r, m), r.Intn(100))
	case n < spawns+16:
		return an("Did", drawn(r, m), r.Intn(100))
	case n < spawns+36:
		// Else hardly any would run, since four calls lead away from that.
		return an("Run", drawn(r, m))
	}
	return an(changeNames[r.Intn(len(changeNames))], drawn(r, m))
}

// P22.1, P22.2, P22.3, P1
func TestDrawnActs(t *testing.T) {
	for seed := range int64(40) {
		r := rand.New(rand.NewSource(seed))
		s := begin(t, 1+r.Intn(9))
		for n := range 600 {
			// By turns many come, and many end.
			a := drawnAct(r, s.table, 5+30*(n/100%2))
			s.does(t, a)
			s.holds(t)
			if r.Intn(40) == 0 {
				// The copy goes another way, and must leave s alone.
				other := s.copied(t)
				for range 10 {
					other.does(t, drawnAct(r, other.table, 20))
				}
				other.holds(t)
				s.holds(t)
			}
			if t.Failed() {
				t.Fatalf("seed %d: behind %s%v", seed, a.call, a.numbers)
			}
		}
	}
}

// The drawn acts meet each answer of each call, and each change, or they would say little.
func TestDrawnActsMeetAll(t *testing.T) {
	met := make(map[string]int)
	for seed := range int64(20) {
		r := rand.New(rand.NewSource(seed))
		s := begin(t, 6)
		for n := range 1000 {
			a := drawnAct(r, s.table, 5+30*(n/100%2))
			what := a.call
			if i := s.table.at(a.numbers[0]); i >= 0 && a.call != "Spawn" {
				what += " " + states[s.table.threads[i].state]
			}
			answer := s.table.copied().does(a)
			s.does(t, a)
			met[what+" "+answer[strings.LastIndex(answer, " ")+1:]]++
		}
	}
	want := []string{"Spawn ok", "Spawn arg", "Spawn full", "Set none", "Did none"}
	for _, was := range states {
		want = append(want, "Set "+was+" ok", "Did "+was+" ok")
		for _, call := range changeNames {
			answer := " state"
			if leads[call][was] != "" {
				answer = " ok"
			}
			want = append(want, call+" "+was+answer)
		}
	}
	for _, call := range changeNames {
		want = append(want, call+" none")
	}
	for _, what := range want {
		if met[what] < 40 {
			t.Errorf("%s: met %d times", what, met[what])
		}
	}
	if len(met) > len(want) {
		t.Errorf("and more: %v", met)
	}
}

// Copies of copies, each with a table of its own.
func TestDrawnCopies(t *testing.T) {
	r := rand.New(rand.NewSource(22))
	l := make([]state, 4)
	for i := range l {
		l[i] = begin(t, 3+i)
	}
	for n := range 3000 {
		i, j := r.Intn(4), r.Intn(4)
		switch r.Intn(40) {
		case 0:
			l[i] = l[j].copied(t)
		case 1:
			// New ones, now and then, or the copies would all have as much room.
			l[i] = begin(t, 1+r.Intn(7))
		}
		l[i].does(t, drawnAct(r, l[i].table, 5+30*(n/100%2)))
		for _, s := range l {
			s.holds(t)
		}
		if t.Failed() {
			t.FailNow()
		}
	}
}

// P22.1, P22.2, P22.3: of those with as much room as there may be.
func TestGreatest(t *testing.T) {
	r := rand.New(rand.NewSource(23))
	s := begin(t, mostThreads)
	for n := range mostThreads + 2 {
		s.does(t, an("Spawn", n, mostTickets-n))
	}
	s.holds(t)
	for n := range 6000 {
		s.does(t, drawnAct(r, s.table, 5+30*(n/500%2)))
		if n%20 == 0 {
			s.holds(t)
		}
	}
	s.holds(t)
}

// P22.1, P22.2: over many lives of few places no id comes twice, and All rises by ids, not
// by places.
func TestManyLives(t *testing.T) {
	x := made(t, 3)
	var live []int
	for n := range 9000 {
		got, err := x.Spawn(context(n), 1)
		if want := id(n%3, n/3+1); got != want || err != api.OK {
			t.Fatalf("Spawn: %d, %v, want %d", got, err, want)
		}
		live = append(live, got)
		if len(live) < 3 {
			continue
		}
		for i, th := range x.All() {
			if th.Id != live[i] {
				t.Fatalf("All: %v, want %v", x.All(), live)
			}
		}
		// The eldest ends, so that the next one has its place.
		if x.Run(live[0]) != api.OK || x.End(live[0]) != api.OK || x.End(live[0]) != api.ErrNone {
			t.Fatalf("End(%d)", live[0])
		}
		live = live[1:]
	}
}
