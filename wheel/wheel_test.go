package wheel

import (
	"cmp"
	"maps"
	"math"
	"slices"
	"testing"

	"wherry/api"
)

const (
	lowest  = math.MinInt
	highest = math.MaxInt
)

// waiting is who waits until when, by ids.
type waiting map[int]int

// inOrder are the ids by times, those of one time by ids.
func (m waiting) inOrder() []int {
	return slices.SortedFunc(maps.Keys(m), func(a, b int) int {
		return cmp.Or(cmp.Compare(m[a], m[b]), cmp.Compare(a, b))
	})
}

// made is New's answer, which may not be nil here.
func made(t *testing.T, most int) *Wheel {
	t.Helper()
	w := New(most)
	if w == nil {
		t.Fatalf("New(%d): nil", most)
	}
	return w
}

// at is a Wheel of so many ids, none of which waits, at that time.
func at(t *testing.T, most, now int) *Wheel {
	t.Helper()
	w := made(t, most)
	for w.Now() < now {
		w.Skip(now - w.Now())
	}
	holds(t, w, most, now, nil)
	return w
}

func is(t *testing.T, what string, got, want api.Errno) {
	t.Helper()
	if got != want {
		t.Errorf("%s: %v, want %v", what, got, want)
	}
}

// ticks holds what Tick wakes against the ids that are wanted.
func ticks(t *testing.T, w *Wheel, want ...int) {
	t.Helper()
	if got := w.Tick(); !slices.Equal(got, want) {
		t.Errorf("Tick, at %d now: %v, want %v", w.Now(), got, want)
	}
}

// skips holds what Skip wakes against the lists that are wanted.
func skips(t *testing.T, w *Wheel, n int, want ...[]int) {
	t.Helper()
	if got := w.Skip(n); !slices.EqualFunc(got, want, slices.Equal) {
		t.Errorf("Skip(%d), at %d now: %v, want %v", n, w.Now(), got, want)
	}
}

// holds looks that it is that time, and just these wait, by all that w tells of
// itself.
func holds(t *testing.T, w *Wheel, most, now int, want waiting) {
	t.Helper()
	if got := w.Now(); got != now {
		t.Errorf("Now: %d, want %d", got, now)
	}
	if got := w.Len(); got != len(want) {
		t.Errorf("Len: %d, want %d", got, len(want))
	}
	all := want.inOrder()
	if got := w.All(); !slices.Equal(got, all) {
		t.Errorf("All: %v, want %v", got, all)
	}
	for id := -1; id <= most; id++ {
		time, ok := want[id]
		whenIs(t, w, id, time, ok)
	}
	first := 0
	if len(all) > 0 {
		first = want[all[0]]
	}
	if got, ok := w.Next(); got != first || ok != (len(all) > 0) {
		t.Errorf("Next: %d, %v, want %d, %v", got, ok, first, len(all) > 0)
	}
}

func whenIs(t *testing.T, w *Wheel, id, want int, wantOK bool) {
	t.Helper()
	if got, ok := w.When(id); got != want || ok != wantOK {
		t.Errorf("When(%d): %d, %v, want %d, %v", id, got, ok, want, wantOK)
	}
}

// P10.1
func TestNew(t *testing.T) {
	for _, c := range []struct {
		most int
		want bool
	}{
		{1, true}, {2, true}, {4095, true}, {4096, true},
		{0, false}, {-1, false}, {4097, false}, {65536, false}, {lowest, false}, {highest, false},
	} {
		if got := New(c.most) != nil; got != c.want {
			t.Errorf("New(%d): made %v, want %v", c.most, got, c.want)
		}
	}
}

// P10.1: it is 0, none waits, and the ids have ends.
func TestNewIsEmpty(t *testing.T) {
	for _, most := range []int{1, 2, 3, 4095, 4096} {
		w := made(t, most)
		holds(t, w, most, 0, nil)
		is(t, "Add(-1)", w.Add(-1, 1), api.ErrRange)
		is(t, "Add(most)", w.Add(most, 1), api.ErrRange)
		holds(t, w, most, 0, nil)
		is(t, "Add(most - 1)", w.Add(most-1, 1), api.OK)
		holds(t, w, most, 0, waiting{most - 1: 1})
		ticks(t, w, most-1)
		holds(t, w, most, 1, nil)
	}
}

// P10.1
func TestNewTellsOneOfItsOwn(t *testing.T) {
	a, b := made(t, 2), made(t, 2)
	is(t, "Add", a.Add(1, 7), api.OK)
	ticks(t, a)
	holds(t, a, 2, 1, waiting{1: 7})
	holds(t, b, 2, 0, nil)
}

// The chapter's example.
func TestExample(t *testing.T) {
	w := made(t, 4)
	is(t, "Add(3, 2)", w.Add(3, 2), api.OK)
	is(t, "Add(1, 2)", w.Add(1, 2), api.OK)
	ticks(t, w)
	ticks(t, w, 1, 3)
	holds(t, w, 4, 2, nil)
}

// P10.1: the time at which an id is woken counts from Now, not from 0.
func TestAdd(t *testing.T) {
	w := at(t, 5, 10)
	is(t, "Add(0, 3)", w.Add(0, 3), api.OK)
	holds(t, w, 5, 10, waiting{0: 13})
	is(t, "Add(4, 1)", w.Add(4, 1), api.OK)
	holds(t, w, 5, 10, waiting{0: 13, 4: 11})
	ticks(t, w, 4)
	holds(t, w, 5, 11, waiting{0: 13})
	is(t, "Add(2, 65535)", w.Add(2, 65535), api.OK)
	holds(t, w, 5, 11, waiting{0: 13, 2: 65546})
	is(t, "Add(1, 2)", w.Add(1, 2), api.OK)
	holds(t, w, 5, 11, waiting{0: 13, 1: 13, 2: 65546})
	ticks(t, w)
	ticks(t, w, 0, 1)
	holds(t, w, 5, 13, waiting{2: 65546})
}

// P10.1: what may not be added, the first error, and that nothing changes.
func TestAddRefused(t *testing.T) {
	want := waiting{0: 21, 3: 20}
	w := at(t, 4, 16)
	is(t, "Add", w.Add(0, 5), api.OK)
	is(t, "Add", w.Add(3, 4), api.OK)
	for _, c := range []struct {
		id, after int
		want      api.Errno
	}{
		// No such id.
		{-1, 1, api.ErrRange}, {4, 1, api.ErrRange}, {5, 1, api.ErrRange},
		{lowest, 1, api.ErrRange}, {highest, 1, api.ErrRange},
		// No such time.
		{1, 0, api.ErrRange}, {1, -1, api.ErrRange}, {1, 65536, api.ErrRange},
		{1, lowest, api.ErrRange}, {1, highest, api.ErrRange},
		{-1, 0, api.ErrRange}, {4, 65536, api.ErrRange}, {lowest, highest, api.ErrRange},
		// ErrRange is named ahead of ErrState.
		{0, 0, api.ErrRange}, {0, 65536, api.ErrRange}, {3, -1, api.ErrRange}, {3, highest, api.ErrRange},
		// It waits.
		{0, 5, api.ErrState}, {0, 1, api.ErrState}, {0, 65535, api.ErrState},
		{3, 4, api.ErrState}, {3, 1, api.ErrState}, {3, 65535, api.ErrState},
	} {
		if got := w.Add(c.id, c.after); got != c.want {
			t.Errorf("Add(%d, %d): %v, want %v", c.id, c.after, got, c.want)
		}
		holds(t, w, 4, 16, want)
	}
	skips(t, w, 10, []int{3}, []int{0})
}

// P10.1: an id may wait again once it was woken, or cancelled, and is woken at
// the later time alone.
func TestAddAgain(t *testing.T) {
	w := made(t, 2)
	is(t, "Add", w.Add(1, 3), api.OK)
	is(t, "Add while it waits", w.Add(1, 3), api.ErrState)
	ticks(t, w)
	ticks(t, w)
	is(t, "Add one ahead of its waking", w.Add(1, 3), api.ErrState)
	ticks(t, w, 1)
	is(t, "Add behind its waking", w.Add(1, 2), api.OK)
	holds(t, w, 2, 3, waiting{1: 5})
	is(t, "Cancel", w.Cancel(1), api.OK)
	holds(t, w, 2, 3, nil)
	is(t, "Add behind Cancel", w.Add(1, 4), api.OK)
	holds(t, w, 2, 3, waiting{1: 7})
	skips(t, w, 3)
	ticks(t, w, 1)
	holds(t, w, 2, 7, nil)
}

// P10.1: of one that is woken at once again, over and over.
func TestAddEachTick(t *testing.T) {
	w := made(t, 1)
	for range 70000 {
		is(t, "Add", w.Add(0, 1), api.OK)
		ticks(t, w, 0)
		if t.Failed() {
			t.FailNow()
		}
	}
	holds(t, w, 1, 70000, nil)
}

// P10.1: the only one of a time, each one of several, and one of each row.
func TestCancel(t *testing.T) {
	want := waiting{0: 5, 1: 40, 2: 5, 3: 700, 4: 5, 5: 7000, 6: 9}
	for id := range 7 {
		w := made(t, 8)
		for other, time := range want {
			is(t, "Add", w.Add(other, time), api.OK)
		}
		holds(t, w, 8, 0, want)
		left := maps.Clone(want)
		delete(left, id)
		is(t, "Cancel", w.Cancel(id), api.OK)
		holds(t, w, 8, 0, left)
		is(t, "Cancel once more", w.Cancel(id), api.ErrNone)
		holds(t, w, 8, 0, left)
		if got := slices.Concat(w.Skip(7000)...); !slices.Equal(got, left.inOrder()) {
			t.Errorf("woken behind Cancel(%d): %v, want %v", id, got, left.inOrder())
		}
		holds(t, w, 8, 7000, nil)
	}
}

// P10.1, P10.2: one that was cancelled is not woken, wherever its row has gone
// down to meanwhile.
func TestCancelledIsNotWoken(t *testing.T) {
	for _, after := range []int{1, 15, 16, 17, 255, 256, 300, 4095, 4096, 5000} {
		for _, ahead := range []int{1, 2, 15, 16, 17, 255, 256, 257, 4095, 4096} {
			if ahead > after {
				continue
			}
			w := made(t, 2)
			is(t, "Add", w.Add(0, after), api.OK)
			is(t, "Add", w.Add(1, after), api.OK)
			skips(t, w, after-ahead)
			is(t, "Cancel", w.Cancel(0), api.OK)
			holds(t, w, 2, after-ahead, waiting{1: after})
			skips(t, w, ahead, []int{1})
			is(t, "Cancel of one that was woken", w.Cancel(1), api.ErrNone)
			skips(t, w, 70000)
		}
	}
}

// P10.1: what may not be cancelled, the first error, and that nothing changes.
func TestCancelRefused(t *testing.T) {
	for _, want := range []waiting{nil, {1: 4}, {1: 4, 2: 4}} {
		w := made(t, 4)
		for id, time := range want {
			is(t, "Add", w.Add(id, time), api.OK)
		}
		for _, c := range []struct {
			id   int
			want api.Errno
		}{
			{-1, api.ErrRange}, {4, api.ErrRange}, {5, api.ErrRange}, {4096, api.ErrRange},
			{lowest, api.ErrRange}, {highest, api.ErrRange},
			{0, api.ErrNone}, {3, api.ErrNone},
		} {
			is(t, "Cancel", w.Cancel(c.id), c.want)
			holds(t, w, 4, 0, want)
		}
	}
}

// P10.1: of one that waits, that was woken, that was cancelled, that never waited,
// and of no such id.
func TestWhen(t *testing.T) {
	w := at(t, 4, 20)
	is(t, "Add", w.Add(0, 300), api.OK)
	is(t, "Add", w.Add(1, 1), api.OK)
	is(t, "Add", w.Add(2, 5), api.OK)
	ticks(t, w, 1)
	is(t, "Cancel", w.Cancel(2), api.OK)
	whenIs(t, w, 0, 320, true)
	for _, id := range []int{1, 2, 3, 4, 5, -1, 4096, lowest, highest} {
		whenIs(t, w, id, 0, false)
	}
}

// P10.1: the least time, also where one that waits longer was added first, and
// where a later one stands nearer by, since it was added later.
func TestNext(t *testing.T) {
	w := made(t, 4)
	is(t, "Add", w.Add(0, 5000), api.OK)
	is(t, "Add", w.Add(1, 17), api.OK)
	holds(t, w, 4, 0, waiting{0: 5000, 1: 17})
	skips(t, w, 15)
	is(t, "Add", w.Add(2, 15), api.OK)
	is(t, "Add", w.Add(3, 1), api.OK)
	holds(t, w, 4, 15, waiting{0: 5000, 1: 17, 2: 30, 3: 16})
	ticks(t, w, 3)
	holds(t, w, 4, 16, waiting{0: 5000, 1: 17, 2: 30})
	ticks(t, w, 1)
	holds(t, w, 4, 17, waiting{0: 5000, 2: 30})
	is(t, "Cancel", w.Cancel(2), api.OK)
	holds(t, w, 4, 17, waiting{0: 5000})
	is(t, "Cancel", w.Cancel(0), api.OK)
	holds(t, w, 4, 17, nil)
}

// P10.1
func TestTickOfNone(t *testing.T) {
	w := made(t, 3)
	for now := range 70000 {
		ticks(t, w)
		if w.Now() != now+1 {
			t.Fatalf("Now: %d, want %d", w.Now(), now+1)
		}
	}
	holds(t, w, 3, 70000, nil)
}

// P10.1: one that waits beside those that are woken stays.
func TestTickWakesJustThose(t *testing.T) {
	w := made(t, 6)
	for id, after := range []int{2, 1, 2, 3, 18, 2} {
		is(t, "Add", w.Add(id, after), api.OK)
	}
	ticks(t, w, 1)
	holds(t, w, 6, 1, waiting{0: 2, 2: 2, 3: 3, 4: 18, 5: 2})
	ticks(t, w, 0, 2, 5)
	holds(t, w, 6, 2, waiting{3: 3, 4: 18})
	ticks(t, w, 3)
	holds(t, w, 6, 3, waiting{4: 18})
}

// P10.1: how far it goes.
func TestSkipGoesSoFar(t *testing.T) {
	for _, c := range []struct{ n, want int }{
		{lowest, 0}, {-100001, 0}, {-1, 0}, {0, 0}, {1, 1}, {2, 2}, {16, 16},
		{65535, 65535}, {65536, 65536}, {99999, 99999}, {100000, 100000},
		{100001, 100000}, {200000, 100000}, {highest, 100000},
	} {
		w := at(t, 2, 7)
		skips(t, w, c.n)
		holds(t, w, 2, 7+c.want, nil)
	}
}

// P10.1: what it wakes, ahead of its end, at it, and behind it.
func TestSkipWakes(t *testing.T) {
	for _, c := range []struct {
		n    int
		want [][]int
		left waiting
	}{
		{-1, nil, waiting{0: 2, 1: 65535, 2: 2, 3: 1, 4: 50}},
		{0, nil, waiting{0: 2, 1: 65535, 2: 2, 3: 1, 4: 50}},
		{1, [][]int{{3}}, waiting{0: 2, 1: 65535, 2: 2, 4: 50}},
		{2, [][]int{{3}, {0, 2}}, waiting{1: 65535, 4: 50}},
		{49, [][]int{{3}, {0, 2}}, waiting{1: 65535, 4: 50}},
		{50, [][]int{{3}, {0, 2}, {4}}, waiting{1: 65535}},
		{65534, [][]int{{3}, {0, 2}, {4}}, waiting{1: 65535}},
		{65535, [][]int{{3}, {0, 2}, {4}, {1}}, nil},
		{100000, [][]int{{3}, {0, 2}, {4}, {1}}, nil},
		{100001, [][]int{{3}, {0, 2}, {4}, {1}}, nil},
		{highest, [][]int{{3}, {0, 2}, {4}, {1}}, nil},
	} {
		w := made(t, 5)
		for id, after := range []int{2, 65535, 2, 1, 50} {
			is(t, "Add", w.Add(id, after), api.OK)
		}
		skips(t, w, c.n, c.want...)
		holds(t, w, 5, min(max(c.n, 0), 100000), c.left)
	}
}

// P10.1: a Skip that has come as far as it may leaves those that wait for more,
// and the next one goes on.
func TestSkipFromItsEnd(t *testing.T) {
	w := made(t, 2)
	skips(t, w, 50000)
	is(t, "Add", w.Add(0, 50000), api.OK)
	is(t, "Add", w.Add(1, 50001), api.OK)
	skips(t, w, 49999)
	skips(t, w, 1, []int{0})
	holds(t, w, 2, 100000, waiting{1: 100001})
	is(t, "Add", w.Add(0, 65535), api.OK)
	skips(t, w, 100001, []int{1}, []int{0})
	holds(t, w, 2, 200000, nil)
}

// P10.1: ids that wait until one time are told rising, in whatever order and
// whenever they were added.
func TestManyUntilOneTime(t *testing.T) {
	const most, time = 4096, 4096 + 300
	w := made(t, most)
	var ids []int
	for i := range most {
		// 2731 and 4096 have no part but 1 in common: each id comes once.
		id := i * 2731 % most
		is(t, "Add", w.Add(id, time-w.Now()), api.OK)
		ticks(t, w)
		ids = append(ids, i)
	}
	want := waiting{}
	for id := range most {
		want[id] = time
	}
	holds(t, w, most, 4096, want)
	skips(t, w, 299)
	ticks(t, w, ids...)
	holds(t, w, most, time, nil)
}

// P10.1: all of them wait, until one time or each until its own.
func TestAllWait(t *testing.T) {
	for name, after := range map[string]func(id int) int{
		"the next":    func(id int) int { return 1 },
		"one time":    func(id int) int { return 300 },
		"the longest": func(id int) int { return 65535 },
		"rising":      func(id int) int { return id + 1 },
		"falling":     func(id int) int { return 65535 - id },
		"some each":   func(id int) int { return 1 + id*389%64*1000 },
	} {
		t.Run(name, func(t *testing.T) {
			w := made(t, 4096)
			want := waiting{}
			for id := range 4096 {
				want[id] = after(id)
				is(t, "Add", w.Add(id, after(id)), api.OK)
			}
			holds(t, w, 4096, 0, want)
			is(t, "Add of one more", w.Add(4096, 1), api.ErrRange)
			is(t, "Add once more", w.Add(4095, 1), api.ErrState)
			var woken []int
			for _, ids := range w.Skip(65535) {
				woken = append(woken, ids...)
			}
			if !slices.Equal(woken, want.inOrder()) {
				t.Errorf("woken: %v, want %v", woken, want.inOrder())
			}
			holds(t, w, 4096, 65535, nil)
		})
	}
}

// R3: what is told is the caller's, and so is the room behind it.
func TestAnswersAreNewMemory(t *testing.T) {
	w := made(t, 5)
	for id, after := range []int{2, 1, 2, 3, 3} {
		is(t, "Add", w.Add(id, after), api.OK)
	}
	first, second := w.All(), w.All()
	spoil(first)
	if want := []int{1, 0, 2, 3, 4}; !slices.Equal(second, want) {
		t.Errorf("the other one: %v, want %v", second, want)
	}
	holds(t, w, 5, 0, waiting{0: 2, 1: 1, 2: 2, 3: 3, 4: 3})
	other := w.Copy()
	spoil(w.Tick())
	holds(t, w, 5, 1, waiting{0: 2, 2: 2, 3: 3, 4: 3})
	for _, l := range w.Skip(1) {
		spoil(l)
	}
	holds(t, w, 5, 2, waiting{3: 3, 4: 3})
	ticks(t, w, 3, 4)
	all := other.Skip(3)
	spoil(all[0])
	spoil(all[2])
	if want := []int{0, 2}; !slices.Equal(all[1], want) {
		t.Errorf("the list between: %v, want %v", all[1], want)
	}
}

// spoil writes over a list and the room behind it.
func spoil(l []int) {
	for i := range l[:cap(l)] {
		l[:cap(l)][i] = 99
	}
}

// P10.1
func TestCopy(t *testing.T) {
	for _, now := range []int{0, 1, 15, 16, 4095, 65535, 65536, 70000} {
		for _, afters := range [][]int{nil, {1}, {65535}, {20, 1, 20, 5000}} {
			w := at(t, 4, now)
			want := waiting{}
			for id, after := range afters {
				is(t, "Add", w.Add(id, after), api.OK)
				want[id] = now + after
			}
			other := w.Copy()
			if other == nil {
				t.Fatalf("Copy at %d of %v: nil", now, afters)
			}
			holds(t, other, 4, now, want)
			holds(t, w, 4, now, want)
			is(t, "Add behind its ids", other.Add(4, 1), api.ErrRange)
			if got, want := other.Skip(65536), w.Skip(65536); !slices.EqualFunc(got, want, slices.Equal) {
				t.Errorf("woken: %v, want %v", got, want)
			}
		}
	}
}

// P10.1, R3: what is done to one of both is not done to the other.
func TestCopyGoesItsOwnWay(t *testing.T) {
	from := waiting{1: 1, 2: 20}
	for _, c := range []struct {
		name string
		do   func(w *Wheel)
		now  int
		left waiting
	}{
		{"Add", func(w *Wheel) { w.Add(0, 9) }, 0, waiting{0: 9, 1: 1, 2: 20}},
		{"Cancel", func(w *Wheel) { w.Cancel(2) }, 0, waiting{1: 1}},
		{"Cancel and Add", func(w *Wheel) { w.Cancel(2); w.Add(2, 7) }, 0, waiting{1: 1, 2: 7}},
		{"Tick", func(w *Wheel) { w.Tick() }, 1, waiting{2: 20}},
		{"Skip", func(w *Wheel) { w.Skip(16) }, 16, waiting{2: 20}},
		{"Skip of all", func(w *Wheel) { w.Skip(20) }, 20, nil},
	} {
		t.Run(c.name, func(t *testing.T) {
			w := made(t, 3)
			is(t, "Add", w.Add(1, 1), api.OK)
			is(t, "Add", w.Add(2, 20), api.OK)
			other := w.Copy()
			c.do(other)
			holds(t, other, 3, c.now, c.left)
			holds(t, w, 3, 0, from)
			third := other.Copy()
			c.do(w)
			holds(t, w, 3, c.now, c.left)
			third.Skip(100)
			holds(t, w, 3, c.now, c.left)
			holds(t, other, 3, c.now, c.left)
		})
	}
}

// P10.1, R5: of a Wheel that no call made. It changes nothing: behind all calls it
// still is none.
func TestOfNoneMade(t *testing.T) {
	for _, w := range []*Wheel{nil, {}, New(0), New(4097), (&Wheel{}).Copy()} {
		for range 2 {
			for _, x := range []int{0, 1, -1, 4095, 4096, lowest, highest} {
				for _, after := range []int{0, 1, 65535, 65536, lowest, highest} {
					is(t, "Add", w.Add(x, after), api.ErrMade)
				}
				is(t, "Cancel", w.Cancel(x), api.ErrMade)
				whenIs(t, w, x, 0, false)
				skips(t, w, x)
			}
			ticks(t, w)
			holds(t, w, 2, 0, nil)
			if w.Copy() != nil {
				t.Errorf("Copy: not nil")
			}
		}
	}
}
