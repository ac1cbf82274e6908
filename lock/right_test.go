package lock_test

import (
	"fmt"
	"math/rand"
	"slices"
	"strings"
	"testing"

	"wherry/api"
	"wherry/lock"
)

// The tests of this file hold Locks against a plain table of threads, by all acts on few
// of them, and by drawn acts, the same ones each time. A call that panicked there would
// fail them too (P1).

// entry is what the table knows of a thread: for what it waits, as Where tells it, since
// when, and the lock that it is to have again.
type entry struct {
	kind, number, since, again int
}

// table has no lists: who waits is found by when each came.
type table struct {
	owners  []int
	threads []entry
	comings int
}

func newTable(objects, threads int) *table {
	return &table{owners: slices.Repeat([]int{-1}, objects), threads: make([]entry, threads)}
}

func (m *table) copied() *table {
	return &table{slices.Clone(m.owners), slices.Clone(m.threads), m.comings}
}

// waiting are those that wait for that, in the order in which they came.
func (m *table) waiting(kind, number int) []int {
	var l []int
	for t, e := range m.threads {
		if e.kind == kind && e.number == number {
			l = append(l, t)
		}
	}
	slices.SortFunc(l, func(a, b int) int { return m.threads[a].since - m.threads[b].since })
	return l
}

// comes lets a thread wait for that.
func (m *table) comes(t, kind, number int) {
	e := &m.threads[t]
	e.kind, e.number, e.since = kind, number, m.comings
	m.comings++
}

// gives gives a lock to the first that waits for it.
func (m *table) gives(o int) int {
	m.owners[o] = -1
	if l := m.waiting(1, o); len(l) > 0 {
		m.threads[l[0]].kind = 0
		m.owners[o] = l[0]
	}
	return m.owners[o]
}

// wants gives a lock to that thread, if it is free.
func (m *table) wants(o, t int) bool {
	if m.owners[o] < 0 {
		m.threads[t].kind = 0
		m.owners[o] = t
		return true
	}
	m.comes(t, 1, o)
	return false
}

func (m *table) signal(c int) int {
	if l := m.waiting(2, c); len(l) > 0 && m.wants(m.threads[l[0]].again, l[0]) {
		return l[0]
	}
	return -1
}

func (m *table) cast(c int) []int {
	var told []int
	for len(m.waiting(2, c)) > 0 {
		if t := m.signal(c); t >= 0 {
			told = append(told, t)
		}
	}
	return told
}

func (m *table) drop(t int) []int {
	if t < 0 || t >= len(m.threads) {
		return nil
	}
	m.threads[t].kind = 0
	var next []int
	for o := range m.owners {
		if m.owners[o] == t && m.gives(o) >= 0 {
			next = append(next, m.owners[o])
		}
	}
	return next
}

// wrong is what is wrong with a call of these locks or conditions, and of a thread.
func (m *table) wrong(call string, objects []int, t int) api.Errno {
	for _, n := range objects {
		if n < 0 || n >= len(m.owners) {
			return api.ErrRange
		}
	}
	if call == "Signal" || call == "Cast" {
		return api.OK
	}
	if t < 0 || t >= len(m.threads) {
		return api.ErrRange
	}
	mine := m.owners[objects[len(objects)-1]] == t
	switch {
	case m.threads[t].kind != 0, call == "Lock" && mine:
		return api.ErrState
	case call != "Lock" && !mine:
		return api.ErrOwner
	}
	return api.OK
}

// does does an act, and tells its answer as does tells that of Locks.
func (m *table) does(a act) string {
	n := a.numbers
	if a.call == "Drop" {
		return fmt.Sprint(m.drop(n[0]))
	}
	objects, thread := n, 0
	if a.call != "Signal" && a.call != "Cast" {
		objects, thread = n[:len(n)-1], n[len(n)-1]
	}
	if err := m.wrong(a.call, objects, thread); err != api.OK {
		nothing := map[string]string{"Lock": "false", "Unlock": "-1", "Wait": "-1", "Signal": "-1", "Cast": "[]"}
		return nothing[a.call] + " " + err.Error()
	}
	switch a.call {
	case "Lock":
		return fmt.Sprint(m.wants(n[0], n[1]), api.OK)
	case "Unlock":
		return fmt.Sprint(m.gives(n[0]), api.OK)
	case "Wait":
		m.comes(n[2], 2, n[0])
		m.threads[n[2]].again = n[1]
		return fmt.Sprint(m.gives(n[1]), api.OK)
	case "Signal":
		return fmt.Sprint(m.signal(n[0]), api.OK)
	}
	return fmt.Sprint(m.cast(n[0]), api.OK)
}

// told is the table, written as told writes Locks.
func (m *table) told() string {
	var parts []string
	for o, owner := range m.owners {
		part := "[-"
		if owner >= 0 {
			part = fmt.Sprint("[", owner)
		}
		for _, t := range m.waiting(1, o) {
			part += fmt.Sprint(" ", t)
		}
		parts = append(parts, part+"]")
	}
	parts = append(parts, "|")
	for c := range m.owners {
		parts = append(parts, fmt.Sprint(m.waiting(2, c)))
	}
	return strings.Join(parts, " ")
}

// key tells tables apart of which the same acts tell not the same.
func (m *table) key() string {
	key := m.told()
	for t, e := range m.threads {
		if e.kind == 2 {
			key += fmt.Sprint(" ", t, "->", e.again)
		}
	}
	return key
}

// alike looks that Locks tell what the table does.
func alike(t *testing.T, l *lock.Locks, m *table) {
	t.Helper()
	holds(t, l, len(m.threads), m.told())
	for thread, e := range m.threads {
		want := [2]int{0, -1}
		if e.kind != 0 {
			want = [2]int{e.kind, e.number}
		}
		if kind, number := l.Where(thread); kind != want[0] || number != want[1] {
			t.Errorf("Where(%d): %d, %d, want %v", thread, kind, number, want)
		}
	}
}

// right is P19.4, asked by what Locks tell alone.
func right(t *testing.T, l *lock.Locks, objects, threads int) {
	t.Helper()
	seen := make(map[int]string)
	for n := range objects {
		owner, waiters := l.Owner(n), l.Waiters(n)
		if owner == -1 && len(waiters) > 0 {
			t.Errorf("lock %d is free, and %v wait for it", n, waiters)
		}
		if owner < -1 || owner >= threads {
			t.Errorf("lock %d: no thread %d", n, owner)
		}
		if slices.Contains(waiters, owner) {
			t.Errorf("%d waits for lock %d, which it has", owner, n)
		}
		for kind, list := range [][]int{waiters, l.Sleepers(n)} {
			for _, thread := range list {
				place := fmt.Sprint(kind+1, " ", n)
				if seen[thread] != "" {
					t.Errorf("%d waits at %s, and at %s", thread, seen[thread], place)
				}
				if a, b := l.Where(thread); fmt.Sprint(a, " ", b) != place {
					t.Errorf("%d waits at %s, and Where tells %d, %d", thread, place, a, b)
				}
				seen[thread] = place
			}
		}
	}
	for thread := range threads {
		if kind, number := l.Where(thread); seen[thread] == "" && (kind != 0 || number != -1) {
			t.Errorf("%d waits nowhere, and Where tells %d, %d", thread, kind, number)
		}
	}
}

// lists are who waits for each lock, and behind these for each condition.
func lists(l *lock.Locks, objects int) [][]int {
	var all [][]int
	for o := range objects {
		all = append(all, l.Waiters(o))
	}
	for c := range objects {
		all = append(all, l.Sleepers(c))
	}
	return all
}

// inOrder looks that those that went on waiting are told in the order in which they
// were, ahead of those that came, and these in the order in which they waited for a
// condition, if they did (P19.4).
func inOrder(t *testing.T, before, after [][]int) {
	t.Helper()
	slept := slices.Concat(before[len(before)/2:]...)
	for i := range after {
		var want []int
		for _, thread := range before[i] {
			if slices.Contains(after[i], thread) {
				want = append(want, thread)
			}
		}
		came := slices.DeleteFunc(slices.Clone(after[i]), func(thread int) bool { return slices.Contains(before[i], thread) })
		slices.SortStableFunc(came, func(a, b int) int { return slices.Index(slept, a) - slices.Index(slept, b) })
		if want = append(want, came...); !slices.Equal(after[i], want) {
			t.Errorf("list %d was %v, and is %v, want %v", i, before[i], after[i], want)
		}
	}
}

// allActs are the acts of numbers from one below the first to one behind the last.
func allActs(objects, threads int) []act {
	var l []act
	for n := -1; n <= objects; n++ {
		l = append(l, an("Signal", n), an("Cast", n))
		for thread := -1; thread <= threads; thread++ {
			l = append(l, an("Lock", n, thread), an("Unlock", n, thread))
			for c := -1; c <= objects; c++ {
				l = append(l, an("Wait", c, n, thread))
			}
		}
	}
	for thread := -1; thread <= threads; thread++ {
		l = append(l, an("Drop", thread))
	}
	return l
}

// state is Locks, and what they should be.
type state struct {
	locks *lock.Locks
	table *table
}

// P19.1, P19.2, P19.3, P19.4: each act in each state to which acts lead; the table alone
// says how many these are.
func TestAllActs(t *testing.T) {
	for _, c := range []struct{ objects, threads, states int }{
		{1, 1, 3}, {1, 2, 11}, {1, 3, 49}, {1, 4, 261}, {2, 1, 12}, {2, 2, 151}, {2, 3, 2032},
	} {
		first := state{made(t, c.objects, c.threads), newTable(c.objects, c.threads)}
		all := allActs(c.objects, c.threads)
		met := map[string]int{first.table.key(): 1}
		for todo := []state{first}; len(todo) > 0; todo = todo[1:] {
			from := todo[0]
			before := lists(from.locks, c.objects)
			for _, a := range all {
				to := state{copied(t, from.locks), from.table.copied()}
				answers(t, to.locks, a, to.table.does(a))
				if got, want := told(to.locks, c.objects), to.table.told(); got != want {
					t.Errorf("%s%v: it tells %s, want %s", a.call, a.numbers, got, want)
				}
				if t.Failed() {
					t.Fatalf("%d, %d: %s%v behind %s", c.objects, c.threads, a.call, a.numbers, from.table.key())
				}
				if met[to.table.key()]++; met[to.table.key()] > 1 {
					continue
				}
				alike(t, to.locks, to.table)
				right(t, to.locks, c.objects, c.threads)
				inOrder(t, before, lists(to.locks, c.objects))
				todo = append(todo, to)
			}
		}
		if len(met) != c.states {
			t.Errorf("%d, %d: %d states, want %d", c.objects, c.threads, len(met), c.states)
		}
	}
}

// drawn is mostly a number below most.
func drawn(r *rand.Rand, most int) int {
	if r.Intn(30) > 0 {
		return r.Intn(most)
	}
	return []int{lowest, -1, most, highest}[r.Intn(4)]
}

// drawnOwned is a lock and the thread that has it, mostly, if there is such a one.
func drawnOwned(r *rand.Rand, m *table) (int, int) {
	o := drawn(r, len(m.owners))
	if o < 0 || o >= len(m.owners) || m.owners[o] < 0 || r.Intn(4) == 0 {
		return o, drawn(r, len(m.threads))
	}
	return o, m.owners[o]
}

func drawnAct(r *rand.Rand, m *table) act {
	objects, threads := len(m.owners), len(m.threads)
	o, owner := drawnOwned(r, m)
	switch r.Intn(20) {
	case 0, 1, 2, 3, 4, 5, 6:
		return an("Lock", drawn(r, objects), drawn(r, threads))
	case 7, 8, 9, 10:
		return an("Unlock", o, owner)
	case 11, 12, 13, 14:
		return an("Wait", drawn(r, objects), o, owner)
	case 15, 16:
		return an("Signal", drawn(r, objects))
	case 17:
		return an("Cast", drawn(r, objects))
	}
	return an("Drop", drawn(r, threads))
}

// goesAlong does so many drawn acts, and looks at everything behind each.
func goesAlong(t *testing.T, r *rand.Rand, l *lock.Locks, m *table, count int) {
	t.Helper()
	objects, threads := len(m.owners), len(m.threads)
	for range count {
		a := drawnAct(r, m)
		before := lists(l, objects)
		answers(t, l, a, m.does(a))
		alike(t, l, m)
		right(t, l, objects, threads)
		inOrder(t, before, lists(l, objects))
		if r.Intn(40) == 0 {
			// The copy goes another way, and must leave l alone.
			other, its := copied(t, l), m.copied()
			for range 10 {
				a := drawnAct(r, its)
				answers(t, other, a, its.does(a))
			}
			alike(t, other, its)
			alike(t, l, m)
		}
		if t.Failed() {
			t.Fatalf("behind %s%v", a.call, a.numbers)
		}
	}
}

// P19.1, P19.2, P19.3, P19.4, P1
func TestDrawnActs(t *testing.T) {
	for seed := range int64(40) {
		r := rand.New(rand.NewSource(seed))
		objects, threads := 1+r.Intn(4), 1+r.Intn(9)
		goesAlong(t, r, made(t, objects, threads), newTable(objects, threads), 800)
	}
}

// The drawn acts meet each answer of each call, or they would say little.
func TestDrawnActsMeetAll(t *testing.T) {
	met := make(map[string]int)
	for seed := range int64(20) {
		r := rand.New(rand.NewSource(seed))
		l, m := made(t, 3, 6), newTable(3, 6)
		for range 2000 {
			a := drawnAct(r, m)
			answer := m.does(a)
			answers(t, l, a, answer)
			met[a.call+" "+kindOf(answer)]++
		}
	}
	for _, what := range []string{
		"Lock true ok", "Lock false ok", "Lock false range", "Lock false state",
		"Unlock one ok", "Unlock -1 ok", "Unlock -1 range", "Unlock -1 state", "Unlock -1 owner",
		"Wait one ok", "Wait -1 ok", "Wait -1 range", "Wait -1 state", "Wait -1 owner",
		"Signal one ok", "Signal -1 ok", "Signal -1 range",
		"Cast [] ok", "Cast [one] ok", "Cast [some] ok", "Cast [] range",
		"Drop []", "Drop [one]", "Drop [some]",
	} {
		if met[what] < 5 {
			t.Errorf("%s: met %d times", what, met[what])
		}
		delete(met, what)
	}
	if len(met) > 0 {
		t.Errorf("and these: %v", met)
	}
}

// kindOf is an answer without the threads' numbers.
func kindOf(answer string) string {
	list, end, isList := strings.Cut(answer, "]")
	switch {
	case isList && list == "[":
		return answer
	case isList && strings.Contains(list, " "):
		return "[some]" + end
	case isList:
		return "[one]" + end
	case answer[0] >= '0' && answer[0] <= '9':
		_, end, _ = strings.Cut(answer, " ")
		return "one " + end
	}
	return answer
}

// Copies of copies, each with a table of its own.
func TestDrawnCopies(t *testing.T) {
	r := rand.New(rand.NewSource(19))
	all := make([]state, 4)
	for i := range all {
		all[i] = state{made(t, 1+i, 3+i), newTable(1+i, 3+i)}
	}
	for range 4000 {
		i, j := r.Intn(4), r.Intn(4)
		switch r.Intn(40) {
		case 0:
			all[i] = state{copied(t, all[j].locks), all[j].table.copied()}
		case 1:
			// New ones, now and then, or the copies would all have as many threads.
			objects, threads := 1+r.Intn(4), 1+r.Intn(7)
			all[i] = state{made(t, objects, threads), newTable(objects, threads)}
		}
		a := drawnAct(r, all[i].table)
		answers(t, all[i].locks, a, all[i].table.does(a))
		for _, s := range all {
			alike(t, s.locks, s.table)
		}
		if t.Failed() {
			t.FailNow()
		}
	}
}

// P19.1, P19.2, P19.4: of those with as many locks and threads as there may be.
func TestGreatest(t *testing.T) {
	r := rand.New(rand.NewSource(20))
	l, m := made(t, mostObjects, mostThreads), newTable(mostObjects, mostThreads)
	// What others wait for, and the last of all.
	for thread := range mostThreads {
		a := an("Lock", (mostThreads-1-thread)%mostObjects, thread)
		answers(t, l, a, m.does(a))
	}
	for n := range 20000 {
		a := drawnAct(r, m)
		answers(t, l, a, m.does(a))
		if n%2000 == 0 {
			right(t, l, mostObjects, mostThreads)
			if got, want := told(l, mostObjects), m.told(); got != want {
				t.Fatalf("it tells %s, want %s", got, want)
			}
		}
	}
}

// P19.2: all threads wait for one condition, and all go for one lock, or for many.
func TestCastOfAll(t *testing.T) {
	for _, locks := range []int{1, 3, mostObjects} {
		l := made(t, mostObjects, mostThreads)
		want := []int{}
		for n := range mostThreads {
			// Each is as far from the one ahead of it as it may be.
			o, thread := n%locks, n*513%mostThreads
			answers(t, l, an("Lock", o, thread), "true ok")
			answers(t, l, an("Wait", 63, o, thread), "-1 ok")
			want = append(want, thread)
		}
		if got := l.Sleepers(63); !slices.Equal(got, want) {
			t.Errorf("Sleepers(63): %v, want %v", got, want)
		}
		answers(t, l, an("Cast", 63), fmt.Sprint(want[:locks], api.OK))
		for o := range locks {
			for i := o; i < mostThreads; i += locks {
				if got := l.Owner(o); got != want[i] {
					t.Fatalf("Owner(%d): %d, want %d", o, got, want[i])
				}
				next := -1
				if i+locks < mostThreads {
					next = want[i+locks]
				}
				answers(t, l, an("Unlock", o, want[i]), fmt.Sprint(next, api.OK))
			}
		}
		if got := told(l, mostObjects); got != free(mostObjects) {
			t.Errorf("at last: %s", got)
		}
	}
}
