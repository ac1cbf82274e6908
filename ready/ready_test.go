package ready

import (
	"cmp"
	"math"
	"slices"
	"testing"

	"wherry/api"
	"wherry/stride"
)

const (
	lowest  = math.MinInt
	highest = math.MaxInt
	rich    = 65536   // MaxTickets
	one     = 1 << 40 // the Stride of one ticket
)

// odd are numbers that are no id, and no number of tickets, in the tests here.
func odd() []int {
	return []int{lowest, lowest + 1, -1 << 40, -65536, -4096, -2, -1, 65537, 1 << 32, 1<<32 + 1, one, highest - 1, highest}
}

// is here: a thread, and what is told of it.
type here struct {
	id, state, pass, picks int
}

// made is New's answer, which may not be nil here.
func made(t *testing.T, most int) *Queue {
	t.Helper()
	q := New(most)
	if q == nil {
		t.Fatalf("New(%d): nil", most)
	}
	return q
}

// is looks at an answer that is an error's number alone.
func is(t *testing.T, call string, got, want api.Errno) {
	t.Helper()
	if got != want {
		t.Errorf("%s: %v, want %v", call, got, want)
	}
}

// picks asks who is next.
func picks(t *testing.T, q *Queue, id int, ok bool) {
	t.Helper()
	if got, has := q.Pick(); got != id || has != ok {
		t.Errorf("Pick: %d, %v, want %d, %v", got, has, id, ok)
	}
}

func lowers(t *testing.T, q *Queue, want int) {
	t.Helper()
	if got := q.Lower(); got != want {
		t.Errorf("Lower: %d, want %d", got, want)
	}
}

// tells looks at what is told of one id.
func tells(t *testing.T, q *Queue, want here) {
	t.Helper()
	if got := q.State(want.id); got != want.state {
		t.Errorf("State(%d): %d, want %d", want.id, got, want.state)
	}
	if got, ok := q.Pass(want.id); got != want.pass || ok != (want.state != 0) {
		t.Errorf("Pass(%d): %d, %v, want %d, %v", want.id, got, ok, want.pass, want.state != 0)
	}
	if got := q.Picks(want.id); got != want.picks {
		t.Errorf("Picks(%d): %d, want %d", want.id, got, want.picks)
	}
}

// order are the ids of those that wait, by passes, of one pass by ids.
func order(threads []here) []int {
	var l []here
	for _, h := range threads {
		if h.state == 1 {
			l = append(l, h)
		}
	}
	slices.SortFunc(l, func(a, b here) int { return cmp.Or(cmp.Compare(a.pass, b.pass), a.id-b.id) })
	var ids []int
	for _, h := range l {
		ids = append(ids, h.id)
	}
	return ids
}

// holds looks that just these threads are here, by all that q tells of itself, twice,
// and that q is Sound.
func holds(t *testing.T, q *Queue, now int, want ...here) {
	t.Helper()
	for range 2 {
		if got := q.Now(); got != now {
			t.Errorf("Now: %d, want %d", got, now)
		}
		if got, ids := q.Waiting(), order(want); !slices.Equal(got, ids) {
			t.Errorf("Waiting: %v, want %v", got, ids)
		}
		if !q.Sound() {
			t.Errorf("Sound: false")
		}
		for _, h := range want {
			tells(t, q, h)
		}
		for _, id := range append(odd(), 0, 1, 2, 3, 4, 5, 6, 7, 8, 4095, 4096) {
			if !slices.ContainsFunc(want, func(h here) bool { return h.id == id }) {
				tells(t, q, here{id: id})
			}
		}
	}
}

// call is a call of one id, from which states it may be done, and to which it leads.
type call struct {
	name string
	do   func(q *Queue, id int) api.Errno
	from []int
	to   int
	last api.Errno // from another state
}

func calls() []call {
	return []call{
		{"Take", (*Queue).Take, []int{1}, 2, api.ErrState},
		{"Back", (*Queue).Back, []int{2}, 1, api.ErrState},
		{"Block", (*Queue).Block, []int{2}, 3, api.ErrState},
		{"Wake", (*Queue).Wake, []int{3}, 1, api.ErrState},
		{"Resume", (*Queue).Resume, []int{3}, 2, api.ErrState},
		{"Drop", (*Queue).Drop, []int{1, 2, 3}, 0, api.ErrNone},
	}
}

// comes lets a thread come that is in that state, and was not picked.
func comes(t *testing.T, q *Queue, id, tickets, state int) {
	t.Helper()
	if state > 0 {
		is(t, "Join", q.Join(id, tickets), api.OK)
	}
	if state > 1 {
		is(t, "Take", q.Take(id), api.OK)
	}
	if state > 2 {
		is(t, "Block", q.Block(id), api.OK)
	}
}

// set puts now, and passes by ids, where no row of calls so short would bring them; key
// by key, so that those that wait are found.
func set(t *testing.T, q *Queue, now int, passes ...int) {
	t.Helper()
	q.now = now
	for id, pass := range passes {
		q.threads[id].pass = pass
		if q.State(id) == 1 {
			is(t, "Change", q.waiting.Change(id, pass), api.OK)
		}
	}
}

// The chapter's example.
func TestExample(t *testing.T) {
	q := made(t, 4)
	is(t, "Join", q.Join(0, 1), api.OK)
	is(t, "Join", q.Join(1, 1), api.OK)
	holds(t, q, 0, here{0, 1, 0, 0}, here{1, 1, 0, 0})
	picks(t, q, 0, true)
	holds(t, q, 0, here{0, 2, one, 1}, here{1, 1, 0, 0})
	picks(t, q, 1, true)
	holds(t, q, 0, here{0, 2, one, 1}, here{1, 2, one, 1})
	is(t, "Back", q.Back(0), api.OK)
	is(t, "Back", q.Back(1), api.OK)
	holds(t, q, 0, here{0, 1, one, 1}, here{1, 1, one, 1})
	picks(t, q, 0, true)
	holds(t, q, one, here{0, 2, 2 * one, 2}, here{1, 1, one, 1})
}

// P18.1
func TestNew(t *testing.T) {
	for _, most := range append(odd(), 0, 4097, 4098) {
		if New(most) != nil {
			t.Errorf("New(%d): not nil", most)
		}
	}
	for _, most := range []int{1, 2, 32, 4095, 4096} {
		q := made(t, most)
		holds(t, q, 0)
		picks(t, q, 0, false)
		lowers(t, q, 0)
		holds(t, q, 0)
	}
}

// P18.1
func TestNewTellsOneOfItsOwn(t *testing.T) {
	a, b := made(t, 2), made(t, 2)
	is(t, "Join", a.Join(1, 1), api.OK)
	holds(t, b, 0)
	picks(t, a, 1, true)
	picks(t, b, 0, false)
	is(t, "Join", b.Join(1, 2), api.OK)
	holds(t, a, 0, here{1, 2, one, 1})
	holds(t, b, 0, here{1, 1, 0, 0})
}

// P18.1: which ids there are.
func TestJoinIds(t *testing.T) {
	for _, most := range []int{1, 2, 5, 4095, 4096} {
		q := made(t, most)
		for _, id := range append(odd(), most, most+1) {
			is(t, "Join", q.Join(id, 1), api.ErrRange)
		}
		holds(t, q, 0)
		is(t, "Join", q.Join(most-1, 1), api.OK)
		holds(t, q, 0, here{most - 1, 1, 0, 0})
		if most > 1 {
			is(t, "Join", q.Join(0, 1), api.OK)
			holds(t, q, 0, here{0, 1, 0, 0}, here{most - 1, 1, 0, 0})
		}
		is(t, "Join", q.Join(most, 1), api.ErrRange)
	}
}

// P18.1, P18.2: which tickets there are, and how far each lets a pass go on.
func TestJoinTickets(t *testing.T) {
	q := made(t, 2)
	for _, tickets := range append(odd(), 0) {
		is(t, "Join", q.Join(1, tickets), api.ErrArg)
		holds(t, q, 0)
	}
	for _, c := range []struct{ tickets, step int }{
		{1, one}, {2, one / 2}, {3, 366503875925}, {7, 157073089682}, {65535, 16777472}, {rich, 16777216},
	} {
		q := made(t, 2)
		is(t, "Join", q.Join(1, c.tickets), api.OK)
		picks(t, q, 1, true)
		holds(t, q, 0, here{1, 2, c.step, 1})
		is(t, "Back", q.Back(1), api.OK)
		picks(t, q, 1, true)
		holds(t, q, c.step, here{1, 2, 2 * c.step, 2})
	}
}

// P18.1: no such id, then tickets, then that it is here.
func TestJoinErrorsInOrder(t *testing.T) {
	for state := range 4 {
		q := made(t, 3)
		comes(t, q, 1, 2, state)
		var want []here
		if state > 0 {
			want = []here{{1, state, 0, 0}}
		}
		for _, id := range append(odd(), 3) {
			for _, tickets := range append(odd(), 0, 1, rich) {
				is(t, "Join", q.Join(id, tickets), api.ErrRange)
			}
		}
		for _, tickets := range append(odd(), 0) {
			is(t, "Join", q.Join(1, tickets), api.ErrArg)
		}
		holds(t, q, 0, want...)
		if state > 0 {
			for _, tickets := range []int{1, 2, rich} {
				is(t, "Join", q.Join(1, tickets), api.ErrState)
			}
			holds(t, q, 0, want...)
		}
	}
}

// P18.1: one that comes has the pass now, and no Picks, also where the id was here.
func TestJoinAtNow(t *testing.T) {
	for state := 1; state <= 3; state++ {
		q := made(t, 3)
		is(t, "Join", q.Join(0, 1), api.OK)
		for range 3 {
			picks(t, q, 0, true)
			is(t, "Back", q.Back(0), api.OK)
		}
		comes(t, q, 1, 2, state)
		holds(t, q, 2*one, here{0, 1, 3 * one, 3}, here{1, state, 2 * one, 0})
		is(t, "Drop", q.Drop(0), api.OK)
		is(t, "Join", q.Join(0, 3), api.OK)
		holds(t, q, 2*one, here{0, 1, 2 * one, 0}, here{1, state, 2 * one, 0})
		is(t, "Drop", q.Drop(1), api.OK)
		picks(t, q, 0, true)
		holds(t, q, 2*one, here{0, 2, 2*one + one/3, 1})
	}
}

// P18.2: each call in each of the four states.
func TestCallsInStates(t *testing.T) {
	for _, c := range calls() {
		for state := range 4 {
			q := made(t, 3)
			comes(t, q, 0, 1, 1)
			comes(t, q, 2, 1, 1)
			comes(t, q, 1, 2, state)
			want := []here{{0, 1, 0, 0}, {1, state, 0, 0}, {2, 1, 0, 0}}
			err := c.last
			if slices.Contains(c.from, state) {
				want[1].state, err = c.to, api.OK
			}
			is(t, c.name, c.do(q, 1), err)
			holds(t, q, 0, want...)
		}
	}
}

// P18.2: no such id is named ahead of its state.
func TestCallsOfNoId(t *testing.T) {
	for _, c := range calls() {
		for state := range 4 {
			for _, most := range []int{1, 3, 4096} {
				q := made(t, most)
				comes(t, q, most-1, 2, state)
				for _, id := range append(odd(), most, most+1) {
					is(t, c.name, c.do(q, id), api.ErrRange)
				}
				tells(t, q, here{most - 1, state, 0, 0})
			}
		}
	}
}

// P18.2: passes and Picks stay where a thread is taken, blocked and resumed.
func TestPassAndPicksStay(t *testing.T) {
	q := made(t, 2)
	comes(t, q, 0, 1, 1)
	comes(t, q, 1, 1, 1)
	for _, id := range []int{0, 1, 0} {
		picks(t, q, id, true)
		is(t, "Back", q.Back(id), api.OK)
	}
	other := here{1, 1, one, 1}
	holds(t, q, one, here{0, 1, 2 * one, 2}, other)
	is(t, "Take", q.Take(0), api.OK) // the other one is next
	holds(t, q, one, here{0, 2, 2 * one, 2}, other)
	is(t, "Block", q.Block(0), api.OK)
	holds(t, q, one, here{0, 3, 2 * one, 2}, other)
	is(t, "Resume", q.Resume(0), api.OK)
	holds(t, q, one, here{0, 2, 2 * one, 2}, other)
	// They stay however far below now the pass is.
	is(t, "Block", q.Block(0), api.OK)
	for range 5 {
		picks(t, q, 1, true)
		is(t, "Back", q.Back(1), api.OK)
	}
	other = here{1, 1, 6 * one, 6}
	holds(t, q, 5*one, here{0, 3, 2 * one, 2}, other)
	is(t, "Resume", q.Resume(0), api.OK)
	holds(t, q, 5*one, here{0, 2, 2 * one, 2}, other)
	is(t, "Back", q.Back(0), api.OK)
	holds(t, q, 5*one, here{0, 1, 5 * one, 2}, other)
	is(t, "Take", q.Take(0), api.OK)
	holds(t, q, 5*one, here{0, 2, 5 * one, 2}, other)
}

// P18.2: where nobody waits, whatever else threads do.
func TestPickOfNobody(t *testing.T) {
	q := made(t, 3)
	picks(t, q, 0, false)
	comes(t, q, 0, 1, 2)
	picks(t, q, 0, false)
	comes(t, q, 2, 1, 3)
	picks(t, q, 0, false)
	holds(t, q, 0, here{0, 2, 0, 0}, here{2, 3, 0, 0})
	is(t, "Wake", q.Wake(2), api.OK)
	picks(t, q, 2, true)
	picks(t, q, 0, false)
	holds(t, q, 0, here{0, 2, 0, 0}, here{2, 2, one, 1})
}

// P18.2: of like passes the least id, in whatever order they came.
func TestPickOfLikePasses(t *testing.T) {
	for _, ids := range [][]int{{0, 1, 2, 3, 4}, {4, 3, 2, 1, 0}, {2, 4, 0, 3, 1}, {1, 0, 4, 2, 3}} {
		q := made(t, 5)
		for _, id := range ids {
			is(t, "Join", q.Join(id, 1+id), api.OK)
		}
		for id := range 5 {
			if got := q.Waiting(); len(got) != 5-id || got[0] != id {
				t.Errorf("Waiting: %v", got)
			}
			picks(t, q, id, true)
		}
		picks(t, q, 0, false)
	}
}

// P18.2: the least pass, and behind it the id, as stride's Ahead says.
func TestPickOfLeastPass(t *testing.T) {
	for _, passes := range [][]int{
		{5, 4, 3, 2, 1}, {1, 2, 3, 4, 5}, {3, 3, 1, 1, 2}, {2, 1, 2, 1, 2}, {0, 0, 0, 0, 0}, {one, one - 1, 0, one, 1},
	} {
		q := made(t, 5)
		var want []here
		for id := range passes {
			comes(t, q, id, 1, 1)
		}
		set(t, q, 0, passes...)
		for id, pass := range passes {
			want = append(want, here{id, 1, pass, 0})
		}
		holds(t, q, 0, want...)
		for range passes {
			first := -1
			for id, h := range want {
				if h.state == 1 && (first < 0 || stride.Ahead(h.pass, id, want[first].pass, first)) {
					first = id
				}
			}
			picks(t, q, first, true)
			now := want[first].pass
			want[first] = here{first, 2, now + one, 1}
			holds(t, q, now, want...)
		}
	}
}

// P18.2: now is never below the greatest pass that was picked.
func TestPickNow(t *testing.T) {
	q := made(t, 3)
	comes(t, q, 0, 1, 1)
	picks(t, q, 0, true) // it runs on, its pass ahead of now
	comes(t, q, 1, 4, 1)
	for n := range 3 {
		picks(t, q, 1, true)
		is(t, "Back", q.Back(1), api.OK)
		holds(t, q, n*one/4, here{0, 2, one, 1}, here{1, 1, (n + 1) * one / 4, n + 1})
	}
	is(t, "Back", q.Back(0), api.OK)
	picks(t, q, 1, true)
	picks(t, q, 0, true)
	holds(t, q, one, here{0, 2, 2 * one, 2}, here{1, 2, one, 4})
	// 1 comes at now, behind which nobody was picked since.
	is(t, "Back", q.Back(1), api.OK)
	picks(t, q, 1, true)
	holds(t, q, one, here{0, 2, 2 * one, 2}, here{1, 2, one + one/4, 5})
}

// P18.2: where a pass enters, by Back and by Wake: below now, at it, between, at the sum
// of now and a Stride, and above that, where no call brings it.
func TestEnter(t *testing.T) {
	const far, step = 5 * one, one / 2
	for _, c := range []struct{ now, pass, want int }{
		{far, far - 1, far}, {far, 0, far}, {far, -1, far}, {far, lowest, far}, {far, far - one, far},
		{far, far, far}, {far, far + 1, far + 1}, {far, far + 12345, far + 12345}, {far, far + step - 1, far + step - 1},
		{far, far + step, far + step}, {far, far + step + 1, far + step}, {far, far + one, far + step}, {far, highest, far + step},
		{0, -1, 0}, {0, 0, 0}, {0, 1, 1}, {0, step, step}, {0, step + 1, step},
		// No int is the sum.
		{highest - 1, highest, highest}, {highest, highest, highest}, {highest, 0, highest},
		{highest - step, highest, highest}, {highest - step - 1, highest, highest - 1}, {highest - step + 1, highest - 7, highest - 7},
	} {
		for _, from := range []int{2, 3} {
			q := made(t, 2)
			comes(t, q, 0, 2, from)
			set(t, q, c.now, c.pass)
			if from == 2 {
				is(t, "Back", q.Back(0), api.OK)
			} else {
				is(t, "Wake", q.Wake(0), api.OK)
			}
			if want := stride.Enter(c.pass, c.now, step); want != c.want {
				t.Errorf("Enter(%d, %d): %d, want %d", c.pass, c.now, want, c.want)
			}
			holds(t, q, c.now, here{0, 1, c.want, 0})
		}
	}
}

// P18.2: the same where calls alone bring it: two run at once, and one goes far.
func TestEnterByCalls(t *testing.T) {
	for _, c := range []struct{ turns, want int }{
		{1, one}, {2, one}, {3, one}, {4, one}, {5, one}, {6, one + one/4}, {9, 2 * one},
	} {
		for _, blocks := range []bool{false, true} {
			q := made(t, 2)
			comes(t, q, 0, 1, 1)
			picks(t, q, 0, true)
			comes(t, q, 1, 4, 1)
			for range c.turns {
				picks(t, q, 1, true)
				is(t, "Back", q.Back(1), api.OK)
			}
			now := (c.turns - 1) * one / 4
			if blocks {
				is(t, "Block", q.Block(0), api.OK)
				is(t, "Wake", q.Wake(0), api.OK)
			} else {
				is(t, "Back", q.Back(0), api.OK)
			}
			holds(t, q, now, here{0, 1, c.want, 1}, here{1, 1, now + one/4, c.turns})
		}
	}
}

// P18.2: one that goes is not here in any way, and nobody else goes.
func TestDrop(t *testing.T) {
	for id := range 5 {
		q := made(t, 5)
		want := []here{{0, 3, one, 1}, {1, 2, one / 2, 1}, {2, 1, one, 1}, {3, 1, one / 4, 0}, {4, 1, 0, 0}}
		for i := range want {
			comes(t, q, i, 1, 1)
		}
		for i := range 3 {
			picks(t, q, i, true)
		}
		is(t, "Block", q.Block(0), api.OK)
		is(t, "Back", q.Back(2), api.OK)
		set(t, q, 0, one, one/2, one, one/4, 0)
		holds(t, q, 0, want...)
		is(t, "Drop", q.Drop(id), api.OK)
		want = slices.Delete(want, id, id+1)
		holds(t, q, 0, want...)
		is(t, "Drop", q.Drop(id), api.ErrNone)
		for _, c := range calls() {
			is(t, c.name, c.do(q, id), c.last)
		}
		holds(t, q, 0, want...)
		is(t, "Join", q.Join(id, 1), api.OK)
		holds(t, q, 0, append(want, here{id, 1, 0, 0})...)
	}
}

// P18.2: nobody, one, and many.
func TestWaiting(t *testing.T) {
	for _, most := range []int{1, 2, 33, 4096} {
		q := made(t, most)
		var want []int
		for id := range most {
			is(t, "Join", q.Join(id, 1), api.OK)
			want = append(want, id)
			if id < 40 || id == most-1 {
				if got := q.Waiting(); !slices.Equal(got, want) {
					t.Fatalf("Waiting: %v, want %v", got, want)
				}
			}
		}
		for id := range most {
			picks(t, q, id, true)
		}
		if got := q.Waiting(); len(got) > 0 {
			t.Errorf("Waiting: %v", got)
		}
		for id := most - 1; id >= 0; id-- {
			is(t, "Back", q.Back(id), api.OK)
		}
		if got := q.Waiting(); !slices.Equal(got, want) || !q.Sound() {
			t.Errorf("Waiting: %v, want %v", got, want)
		}
	}
}

// P18.2, R3: what Waiting tells is the caller's, and stays.
func TestWaitingIsNewMemory(t *testing.T) {
	q := made(t, 4)
	for id := range 4 {
		comes(t, q, id, 1, 1)
	}
	want := []here{{0, 1, 0, 0}, {1, 1, 0, 0}, {2, 1, 0, 0}, {3, 1, 0, 0}}
	first, second := q.Waiting(), q.Waiting()
	for i := range first[:cap(first)] {
		first[:cap(first)][i] = 99
	}
	if !slices.Equal(second, []int{0, 1, 2, 3}) {
		t.Errorf("the other one: %v", second)
	}
	holds(t, q, 0, want...)
	picks(t, q, 0, true)
	is(t, "Drop", q.Drop(2), api.OK)
	if !slices.Equal(second, []int{0, 1, 2, 3}) {
		t.Errorf("behind other calls: %v", second)
	}
}

// P18.2: of one that is here, whatever its state is, and of one that is not.
func TestPassAndPicks(t *testing.T) {
	q := made(t, 3)
	comes(t, q, 1, 4, 1)
	for n := range 4 {
		tells(t, q, here{1, 1, n * one / 4, n})
		picks(t, q, 1, true)
		tells(t, q, here{1, 2, (n + 1) * one / 4, n + 1})
		is(t, "Block", q.Block(1), api.OK)
		tells(t, q, here{1, 3, (n + 1) * one / 4, n + 1})
		is(t, "Wake", q.Wake(1), api.OK)
	}
	is(t, "Drop", q.Drop(1), api.OK)
	tells(t, q, here{id: 1})
	for _, id := range append(odd(), 0, 2, 3) {
		tells(t, q, here{id: id})
	}
}

// P18.3: where now is 0, and above it; each pass, whatever its state is.
func TestLower(t *testing.T) {
	for _, now := range []int{0, 1, one, 3*one + 7, 1<<60 - 1, 1 << 60, 1<<60 + 1, 1 << 62, highest - one} {
		q := made(t, 7)
		for id := range 6 {
			comes(t, q, id, 1, []int{1, 1, 2, 3, 2, 3}[id])
		}
		set(t, q, now, now+one, now, now+7, now+5, now-11, lowest+now)
		holds(t, q, now, here{0, 1, now + one, 0}, here{1, 1, now, 0}, here{2, 2, now + 7, 0}, here{3, 3, now + 5, 0},
			here{4, 2, now - 11, 0}, here{5, 3, lowest + now, 0})
		lowers(t, q, now)
		holds(t, q, 0, here{0, 1, one, 0}, here{1, 1, 0, 0}, here{2, 2, 7, 0}, here{3, 3, 5, 0},
			here{4, 2, -11, 0}, here{5, 3, lowest, 0})
		lowers(t, q, 0)
		tells(t, q, here{0, 1, one, 0})
	}
}

// P18.3: where one pass would be too small nothing is lowered; a pass that is none, of
// an id that is not here, isn't asked.
func TestLowerTooSmall(t *testing.T) {
	for _, now := range []int{1, one, 1 << 60, 1<<60 + 1, highest} {
		for _, state := range []int{2, 3} {
			q := made(t, 3)
			comes(t, q, 1, 2, 1)
			comes(t, q, 0, 1, state)
			set(t, q, now, lowest+now-1, now)
			want := []here{{0, state, lowest + now - 1, 0}, {1, 1, now, 0}}
			lowers(t, q, 0)
			holds(t, q, now, want...)
			lowers(t, q, 0)
			holds(t, q, now, want...)
			other := q.Copy()
			is(t, "Drop", other.Drop(0), api.OK)
			lowers(t, other, now)
			holds(t, other, 0, here{1, 1, 0, 0})
			if state == 2 {
				is(t, "Back", q.Back(0), api.OK)
			} else {
				is(t, "Wake", q.Wake(0), api.OK)
			}
			lowers(t, q, now)
			holds(t, q, 0, here{0, 1, 0, 0}, here{1, 1, 0, 0})
		}
	}
}

// P18.3: Pick lowers where now is above 2^60, and only there; also where nobody waits.
func TestPickLowers(t *testing.T) {
	for _, now := range []int{0, 1, 1<<60 - 1, 1 << 60, 1<<60 + 1, 1<<60 + one, 1 << 61, 1 << 62, highest - 2*one} {
		left := now
		if now > 1<<60 {
			left = 0
		}
		q := made(t, 4)
		comes(t, q, 0, 1, 1)
		comes(t, q, 1, 1, 2)
		comes(t, q, 2, 1, 3)
		set(t, q, now, now+3, now+4, now-5)
		nobody := q.Copy()
		picks(t, q, 0, true)
		holds(t, q, left+3, here{0, 2, left + 3 + one, 1}, here{1, 2, left + 4, 0}, here{2, 3, left - 5, 0})
		is(t, "Drop", nobody.Drop(0), api.OK)
		picks(t, nobody, 0, false)
		holds(t, nobody, left, here{1, 2, left + 4, 0}, here{2, 3, left - 5, 0})
	}
}

// P18.3, P1, R6: Pick goes on where nothing can be lowered, and where the pass that is
// charged is no int; behind that all is as ever.
func TestPickWithoutLower(t *testing.T) {
	q := made(t, 3)
	comes(t, q, 0, 1, 1)
	comes(t, q, 1, 2, 1)
	comes(t, q, 2, 1, 3)
	const near = highest - one
	set(t, q, near-1, near, near+1, -2*one)
	stale := here{2, 3, -2 * one, 0}
	picks(t, q, 0, true)
	holds(t, q, near, here{0, 2, highest, 1}, here{1, 1, near + 1, 0}, stale)
	picks(t, q, 1, true)
	holds(t, q, near+1, here{0, 2, highest, 1}, here{1, 2, near + 1 + one/2, 1}, stale)
	is(t, "Back", q.Back(0), api.OK)
	is(t, "Back", q.Back(1), api.OK)
	picks(t, q, 1, true)
	holds(t, q, near+1+one/2, here{0, 1, highest, 1}, here{1, 2, highest, 2}, stale)
	picks(t, q, 0, true)
	holds(t, q, highest, here{0, 2, highest, 2}, here{1, 2, highest, 2}, stale)
	is(t, "Back", q.Back(0), api.OK)
	is(t, "Back", q.Back(1), api.OK)
	holds(t, q, highest, here{0, 1, highest, 2}, here{1, 1, highest, 2}, stale)
	is(t, "Wake", q.Wake(2), api.OK)
	picks(t, q, 0, true)
	holds(t, q, 0, here{0, 2, one, 3}, here{1, 1, 0, 2}, here{2, 1, 0, 0})
}

// P18.3: each that waits, from now to now and its own Stride.
func TestSound(t *testing.T) {
	const now, step = 3 * one, one / 2
	for _, c := range []struct {
		pass int
		want bool
	}{
		{now, true}, {now + 1, true}, {now + step - 1, true}, {now + step, true},
		{now - 1, false}, {0, false}, {lowest, false}, {now + step + 1, false}, {now + one, false}, {highest, false},
	} {
		for state := 1; state <= 3; state++ {
			q := made(t, 2)
			comes(t, q, 0, 2, state)
			comes(t, q, 1, 1, 1)
			set(t, q, now, c.pass, now+one)
			want := c.want || state > 1 // nobody else is asked for the pass
			for range 2 {
				if got := q.Sound(); got != want {
					t.Errorf("Sound with pass %d in state %d: %v", c.pass, state, got)
				}
			}
		}
	}
}

// P18.3: one that waits and is not found where it is, and one that is found where it is
// not.
func TestSoundOfWhoIsFound(t *testing.T) {
	for _, c := range []struct {
		name string
		do   func(q *Queue)
	}{
		{"another pass", func(q *Queue) { q.threads[1].pass++ }},
		{"another key", func(q *Queue) { q.waiting.Change(1, 1) }},
		{"none that waits", func(q *Queue) { q.waiting.Remove(1) }},
		{"one that runs", func(q *Queue) { q.waiting.Put(2, 0) }},
		{"one that is not here", func(q *Queue) { q.waiting.Put(3, 0) }},
		{"one instead of another", func(q *Queue) { q.waiting.Remove(1); q.waiting.Put(2, 0) }},
	} {
		q := made(t, 4)
		comes(t, q, 0, 1, 1)
		comes(t, q, 1, 1, 1)
		comes(t, q, 2, 1, 2)
		holds(t, q, 0, here{0, 1, 0, 0}, here{1, 1, 0, 0}, here{2, 2, 0, 0})
		c.do(q)
		if q.Sound() {
			t.Errorf("%s: Sound", c.name)
		}
	}
}

// oneOfEach is a Queue with threads in all states, its now above 0.
func oneOfEach(t *testing.T) (*Queue, int, []here) {
	t.Helper()
	q := made(t, 6)
	for id := range 4 {
		comes(t, q, id, 1+id, 1)
	}
	for _, id := range []int{0, 1, 2, 3} {
		picks(t, q, id, true)
	}
	is(t, "Back", q.Back(3), api.OK)
	is(t, "Back", q.Back(1), api.OK)
	picks(t, q, 3, true)
	is(t, "Back", q.Back(3), api.OK)
	is(t, "Block", q.Block(2), api.OK)
	want := []here{{0, 2, one, 1}, {1, 1, one / 2, 1}, {2, 3, one / 3, 1}, {3, 1, one / 2, 2}}
	holds(t, q, one/4, want...)
	return q, one / 4, want
}

// R3: what is done to one of both is not done to the other.
func TestCopyGoesItsOwnWay(t *testing.T) {
	for _, c := range []struct {
		name string
		do   func(q *Queue) bool
	}{
		{"Join", func(q *Queue) bool { return q.Join(5, 1) == api.OK }},
		{"Pick", func(q *Queue) bool { id, ok := q.Pick(); return id == 1 && ok }},
		{"Take", func(q *Queue) bool { return q.Take(3) == api.OK }},
		{"Back", func(q *Queue) bool { return q.Back(0) == api.OK }},
		{"Block", func(q *Queue) bool { return q.Block(0) == api.OK }},
		{"Wake", func(q *Queue) bool { return q.Wake(2) == api.OK }},
		{"Resume", func(q *Queue) bool { return q.Resume(2) == api.OK }},
		{"Drop of one that waits", func(q *Queue) bool { return q.Drop(1) == api.OK }},
		{"Drop of one that runs", func(q *Queue) bool { return q.Drop(0) == api.OK }},
		{"Lower", func(q *Queue) bool { return q.Lower() == one/4 }},
	} {
		t.Run(c.name, func(t *testing.T) {
			q, now, want := oneOfEach(t)
			other, third := q.Copy(), q.Copy()
			if other == nil || other == q {
				t.Fatalf("Copy: %p of %p", other, q)
			}
			holds(t, other, now, want...)
			if !c.do(other) {
				t.Fatalf("%s was refused", c.name)
			}
			holds(t, q, now, want...)
			if !c.do(q) {
				t.Fatalf("%s was refused then", c.name)
			}
			holds(t, third, now, want...)
			for id := range 6 {
				q.Drop(id)
			}
			holds(t, third, now, want...)
			if !c.do(third) || other.Now() != third.Now() || !slices.Equal(other.Waiting(), third.Waiting()) {
				t.Errorf("%s: %v and %v", c.name, other.Waiting(), third.Waiting())
			}
		})
	}
}

// P18.1: alike are the ids that there are, too.
func TestCopyHasTheSameIds(t *testing.T) {
	for _, most := range []int{1, 2, 4096} {
		q := made(t, most).Copy()
		holds(t, q, 0)
		is(t, "Join", q.Join(most, 1), api.ErrRange)
		is(t, "Join", q.Join(most-1, 1), api.OK)
		is(t, "Join", q.Copy().Join(most-1, 1), api.ErrState)
	}
}

// R5: of a Queue that no call made. It changes nothing: behind all calls it still is
// none. ErrMade is named ahead of all others.
func TestOfNoneMade(t *testing.T) {
	var none *Queue
	for _, q := range []*Queue{nil, {}, New(0), New(-1), New(4097), (&Queue{}).Copy(), none.Copy()} {
		for range 2 {
			for _, id := range append(odd(), 0, 1, 5, 4095, 4096) {
				for _, tickets := range append(odd(), 0, 1, rich) {
					is(t, "Join", q.Join(id, tickets), api.ErrMade)
				}
				for _, c := range calls() {
					is(t, c.name, c.do(q, id), api.ErrMade)
				}
				tells(t, q, here{id: id})
			}
			picks(t, q, 0, false)
			lowers(t, q, 0)
			if q.Now() != 0 || q.Sound() || len(q.Waiting()) > 0 || q.Copy() != nil {
				t.Errorf("Now %d, Sound %v, Waiting %v, Copy %p", q.Now(), q.Sound(), q.Waiting(), q.Copy())
			}
		}
	}
}
