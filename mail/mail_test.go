package mail

import (
	"math"
	"slices"
	"testing"

	"wherry/api"
	"wherry/event"
)

const (
	lowest  = math.MinInt
	highest = math.MaxInt
	far     = 1 << 40
)

func grant(act int) api.Event {
	return api.Event{Kind: event.Grant, Act: act}
}

func preempted(act, thread int) api.Event {
	c := api.Context{Program: act % 8, PC: thread % 65, Depth: act % 9, Regs: [8]int{lowest, -act, thread, 7: highest}}
	return api.Event{Kind: event.Preempted, Act: act, Thread: thread, Context: c}
}

func blocked(act, thread int) api.Event {
	return api.Event{Kind: event.Blocked, Act: act, Thread: thread}
}

func unblocked(act, thread, value int) api.Event {
	return api.Event{Kind: event.Unblocked, Act: act, Thread: thread, Value: value}
}

// grants are so many events, each with another Act, from 1 on.
func grants(count int) []api.Event {
	l := make([]api.Event, count)
	for i := range l {
		l[i] = grant(i + 1)
	}
	return l
}

// some are events of all kinds that may be in a Box, of threads 7, 8 and 9, and none.
func some() []api.Event {
	return []api.Event{blocked(1, 7), grant(2), unblocked(3, 8, 5), unblocked(1, 7, 1000), preempted(4, 9), grant(5), blocked(6, 8)}
}

// wrongs are events that may not be in a Box: downcalls, and those that are not
// Good, each by one thing alone.
func wrongs() []api.Event {
	withContext := func(e api.Event, c api.Context) api.Event {
		e.Context = c
		return e
	}
	return []api.Event{
		{Kind: event.Demand}, {Kind: event.Demand, Value: 8}, {Kind: event.Demand, Value: 1000},
		{Kind: event.Idle, Act: 1}, {Kind: event.Idle, Act: far},
		{Kind: event.Recycle, Act: 1}, {Kind: event.Recycle, Act: far},
		{}, {Act: 1}, {Kind: -1, Act: 1}, {Kind: 8, Act: 1}, {Kind: 257, Act: 1}, {Kind: lowest, Act: 1}, {Kind: highest, Act: 1},
		grant(0), grant(-1), grant(far + 1), grant(lowest), grant(highest),
		{Kind: event.Grant, Act: 1, Thread: 1}, {Kind: event.Grant, Act: 1, Value: 1},
		withContext(grant(1), api.Context{PC: 1}), withContext(grant(1), api.Context{Regs: [8]int{7: 1}}),
		blocked(0, 1), blocked(1, 0), blocked(1, -1), blocked(1, far+1), {Kind: event.Blocked, Act: 1, Thread: 1, Value: 1},
		withContext(blocked(1, 1), api.Context{Depth: 1}),
		unblocked(0, 1, 1), unblocked(1, 0, 1), unblocked(1, 1, -1), unblocked(1, 1, 1001), unblocked(1, far+1, 0),
		withContext(unblocked(1, 1, 1), api.Context{Program: 1}),
		preempted(1, 0), {Kind: event.Preempted, Thread: 1}, {Kind: event.Preempted, Act: 1, Thread: 1, Value: 1},
		withContext(preempted(1, 1), api.Context{Program: 8}), withContext(preempted(1, 1), api.Context{Program: -1}),
		withContext(preempted(1, 1), api.Context{PC: 65}), withContext(preempted(1, 1), api.Context{PC: -1}),
		withContext(preempted(1, 1), api.Context{Depth: 9}), withContext(preempted(1, 1), api.Context{Depth: -1}),
	}
}

// made is New's answer, which may not be nil here.
func made(t *testing.T, most int) *Box {
	t.Helper()
	b := New(most)
	if b == nil {
		t.Fatalf("New(%d): nil", most)
	}
	return b
}

// with is a Box of so many places in which these events are.
func with(t *testing.T, most int, l ...api.Event) *Box {
	t.Helper()
	b := made(t, most)
	for _, e := range l {
		puts(t, b, e, api.OK)
	}
	return b
}

func puts(t *testing.T, b *Box, e api.Event, want api.Errno) {
	t.Helper()
	if got := b.Put(e); got != want {
		t.Errorf("Put(%v): %v, want %v", e, got, want)
	}
}

func takes(t *testing.T, b *Box, most int, want ...api.Event) {
	t.Helper()
	if got := b.Take(most); !slices.Equal(got, want) {
		t.Errorf("Take(%d): %v, want %v", most, got, want)
	}
}

func undoes(t *testing.T, b *Box, l []api.Event, want api.Errno) {
	t.Helper()
	if got := b.Undo(l); got != want {
		t.Errorf("Undo(%v): %v, want %v", l, got, want)
	}
}

func drops(t *testing.T, b *Box, thread, want int) {
	t.Helper()
	if got := b.Drop(thread); got != want {
		t.Errorf("Drop(%d): %d, want %d", thread, got, want)
	}
}

func counts(t *testing.T, b *Box, kind, want int) {
	t.Helper()
	if got := b.Count(kind); got != want {
		t.Errorf("Count(%d): %d, want %d", kind, got, want)
	}
}

func finds(t *testing.T, b *Box, thread int, e api.Event, ok bool) {
	t.Helper()
	if got, is := b.Find(thread); got != e || is != ok {
		t.Errorf("Find(%d): %v, %v, want %v, %v", thread, got, is, e, ok)
	}
}

// holds looks that just these events are there, by all that b tells of itself.
func holds(t *testing.T, b *Box, want ...api.Event) {
	t.Helper()
	if got := b.All(); !slices.Equal(got, want) {
		t.Errorf("All: %v, want %v", got, want)
	}
	if got := b.Len(); got != len(want) {
		t.Errorf("Len: %d, want %d", got, len(want))
	}
	var kinds [9]int
	for _, e := range want {
		kinds[e.Kind]++
	}
	for kind, n := range kinds {
		counts(t, b, kind, n)
	}
	for _, e := range want {
		i := slices.IndexFunc(want, func(x api.Event) bool { return x.Thread == e.Thread })
		finds(t, b, e.Thread, want[i], true)
	}
}

// P15.1
func TestNew(t *testing.T) {
	for _, most := range []int{lowest, lowest + 1, -1024, -1, 0, 1025, 1026, 4096, 65536, far, 1<<32 + 1, highest - 1, highest} {
		if New(most) != nil {
			t.Errorf("New(%d): not nil", most)
		}
	}
	for _, most := range []int{1, 2, 64, 1023, 1024} {
		holds(t, made(t, most))
	}
}

// P15.1
func TestNewTellsOneOfItsOwn(t *testing.T) {
	a, b := made(t, 2), made(t, 2)
	puts(t, a, grant(1), api.OK)
	holds(t, a, grant(1))
	holds(t, b)
	puts(t, b, grant(2), api.OK)
	holds(t, a, grant(1))
	holds(t, b, grant(2))
}

// The chapter's example.
func TestExample(t *testing.T) {
	for _, l := range [][]api.Event{
		{grant(1), grant(2)},
		{blocked(1, 7), unblocked(1, 7, 5)},
		{preempted(1, 7), grant(2)},
	} {
		b := with(t, 2, l...)
		told := b.Take(1)
		if !slices.Equal(told, l[:1]) {
			t.Errorf("Take(1): %v, want %v", told, l[:1])
		}
		holds(t, b, l[1])
		undoes(t, b, told, api.OK)
		holds(t, b, l...)
	}
}

// P15.1: each kind of upcall, with numbers at their ends, behind none and others.
func TestPut(t *testing.T) {
	edges := []api.Event{
		grant(1), grant(far),
		preempted(1, 1), preempted(far, far), {Kind: event.Preempted, Act: 1, Thread: 1},
		{Kind: event.Preempted, Act: 1, Thread: 1, Context: api.Context{Program: 7, PC: 64, Depth: 8}},
		blocked(1, far), blocked(far, 1),
		unblocked(1, 1, 0), unblocked(far, far, 1000),
	}
	for _, e := range edges {
		b := made(t, 2)
		puts(t, b, e, api.OK)
		holds(t, b, e)
		puts(t, b, e, api.OK)
		holds(t, b, e, e)
	}
	b := made(t, len(edges))
	for i, e := range edges {
		puts(t, b, e, api.OK)
		holds(t, b, edges[:i+1]...)
	}
}

// P15.1: what may not be there, and that nothing changes.
func TestPutRefused(t *testing.T) {
	empty, b := made(t, 3), with(t, 3, blocked(1, 7), grant(2))
	for _, e := range wrongs() {
		puts(t, empty, e, api.ErrArg)
		holds(t, empty)
		puts(t, b, e, api.ErrArg)
		holds(t, b, blocked(1, 7), grant(2))
	}
	puts(t, b, grant(3), api.OK)
	holds(t, b, blocked(1, 7), grant(2), grant(3))
}

// P15.1: how many there may be, and that one more may behind a Take or a Drop.
func TestPutIntoAFullOne(t *testing.T) {
	for _, most := range []int{1, 2, 3, 64, 1023, 1024} {
		b := made(t, most)
		want := grants(most)
		for i, e := range want {
			if b.Len() != i {
				t.Fatalf("Len: %d, want %d", b.Len(), i)
			}
			puts(t, b, e, api.OK)
		}
		for range 2 {
			for _, e := range []api.Event{grant(1), preempted(1, 1), blocked(1, 1), unblocked(1, 1, 1)} {
				puts(t, b, e, api.ErrFull)
			}
			holds(t, b, want...)
		}
		takes(t, b, 1, want[0])
		puts(t, b, blocked(1, 7), api.OK)
		puts(t, b, grant(1), api.ErrFull)
		want = append(want[1:], blocked(1, 7))
		holds(t, b, want...)
		drops(t, b, 7, 1)
		puts(t, b, grant(9), api.OK)
		puts(t, b, grant(9), api.ErrFull)
		want[most-1] = grant(9)
		holds(t, b, want...)
	}
}

// P15.1: ErrArg is named ahead of ErrFull.
func TestPutErrorsInOrder(t *testing.T) {
	b := with(t, 1, grant(1))
	for _, e := range wrongs() {
		puts(t, b, e, api.ErrArg)
		holds(t, b, grant(1))
	}
	puts(t, b, grant(2), api.ErrFull)
	holds(t, b, grant(1))
}

// P15.1: how many go where no one is Preempted.
func TestTake(t *testing.T) {
	for _, c := range []struct{ there, most, gone int }{
		{0, lowest, 0}, {0, -1, 0}, {0, 0, 0}, {0, 1, 0}, {0, 16, 0}, {0, highest, 0},
		{1, lowest, 1}, {1, -1, 1}, {1, 0, 1}, {1, 1, 1}, {1, 2, 1}, {1, highest, 1},
		{5, lowest, 1}, {5, -5, 1}, {5, -1, 1}, {5, 0, 1}, {5, 1, 1}, {5, 2, 2}, {5, 4, 4}, {5, 5, 5}, {5, 6, 5}, {5, 1025, 5}, {5, highest, 5},
		{1024, 16, 16}, {1024, 1023, 1023}, {1024, 1024, 1024}, {1024, 1025, 1024},
	} {
		l := grants(c.there)
		b := with(t, 1024, l...)
		takes(t, b, c.most, l[:c.gone]...)
		holds(t, b, l[c.gone:]...)
	}
}

// P15.1: a Preempted one is the last that goes, as far as most goes.
func TestTakeOfPreempted(t *testing.T) {
	for first := range 5 {
		for second := first; second < 5; second++ {
			for most := -1; most < 8; most++ {
				l := some()[:5]
				l[4] = grant(9)
				l[first], l[second] = preempted(3, 7), preempted(4, 8)
				b := with(t, 5, l...)
				n := min(max(most, 1), first+1)
				takes(t, b, most, l[:n]...)
				holds(t, b, l[n:]...)
			}
		}
	}
	all := []api.Event{preempted(1, 1), preempted(2, 2), preempted(3, 3)}
	b := with(t, 3, all...)
	for i, e := range all {
		takes(t, b, 16, e)
		holds(t, b, all[i+1:]...)
	}
	takes(t, b, 16)
	holds(t, b)
}

// P15.2: what is put comes in order, by Takes one behind the other.
func TestComesInOrder(t *testing.T) {
	for most := 1; most < 9; most++ {
		b := with(t, 9, some()...)
		var told []api.Event
		for range some() {
			told = append(told, b.Take(most)...)
		}
		holds(t, b)
		if !slices.Equal(told, some()) {
			t.Errorf("by %d: %v, want %v", most, told, some())
		}
	}
}

// P15.1: of nothing, into any Box.
func TestUndoOfNothing(t *testing.T) {
	for _, l := range [][]api.Event{nil, {}, some()[:0]} {
		b := made(t, 1)
		undoes(t, b, l, api.OK)
		holds(t, b)
		puts(t, b, grant(1), api.OK)
		undoes(t, b, l, api.OK) // a full one, too
		holds(t, b, grant(1))
	}
}

// P15.1, P15.2: what was taken is there again, and comes again first.
func TestUndoOfTaken(t *testing.T) {
	for most := range 9 {
		b := with(t, 7, some()...)
		told := b.Take(most)
		undoes(t, b, told, api.OK)
		holds(t, b, some()...)
		takes(t, b, most, told...)
		holds(t, b, some()[len(told):]...)
	}
	// What was put meanwhile stays behind.
	b := with(t, 4, grant(1), grant(2), grant(3))
	told := b.Take(2)
	puts(t, b, blocked(4, 7), api.OK)
	undoes(t, b, told, api.OK)
	holds(t, b, grant(1), grant(2), grant(3), blocked(4, 7))
	// Two, in the order in which they were undone: the later one is the first.
	first := b.Take(1)
	second := b.Take(1)
	undoes(t, b, second, api.OK)
	holds(t, b, grant(2), grant(3), blocked(4, 7))
	undoes(t, b, first, api.OK)
	holds(t, b, grant(1), grant(2), grant(3), blocked(4, 7))
}

// P15.1: others than were taken, in their order, into an empty Box and one with
// others.
func TestUndoOfOthers(t *testing.T) {
	b := made(t, 20)
	undoes(t, b, some(), api.OK)
	holds(t, b, some()...)
	undoes(t, b, grants(3), api.OK)
	holds(t, b, slices.Concat(grants(3), some())...)
	puts(t, b, grant(77), api.OK)
	undoes(t, b, []api.Event{preempted(8, 8)}, api.OK)
	holds(t, b, slices.Concat([]api.Event{preempted(8, 8)}, grants(3), some(), []api.Event{grant(77)})...)
	// The same once more: a Box asks for no difference.
	undoes(t, b, grants(2), api.OK)
	holds(t, b, slices.Concat(grants(2), []api.Event{preempted(8, 8)}, grants(3), some(), []api.Event{grant(77)})...)
}

// P15.1: one that may not be, at each place, and that nothing changes.
func TestUndoRefused(t *testing.T) {
	empty, b := made(t, 9), with(t, 9, blocked(1, 7), grant(2))
	for _, e := range wrongs() {
		undoes(t, empty, []api.Event{e}, api.ErrArg)
		for i := range 5 {
			l := grants(4)
			l = slices.Insert(l, i, e)
			undoes(t, empty, l, api.ErrArg)
			undoes(t, b, l, api.ErrArg)
		}
		holds(t, empty)
		holds(t, b, blocked(1, 7), grant(2))
	}
}

// P15.1: as many as there is room for, and one more.
func TestUndoOfMany(t *testing.T) {
	for _, c := range []struct{ most, there int }{
		{1, 0}, {1, 1}, {2, 0}, {2, 1}, {2, 2}, {7, 3}, {64, 63}, {1023, 5}, {1024, 0}, {1024, 1}, {1024, 512}, {1024, 1023}, {1024, 1024},
	} {
		before := make([]api.Event, c.there)
		for i := range before {
			before[i] = blocked(i+1, 7)
		}
		b := with(t, c.most, before...)
		room := c.most - c.there
		undoes(t, b, grants(room+1), api.ErrFull)
		undoes(t, b, grants(room+1000), api.ErrFull)
		holds(t, b, before...)
		undoes(t, b, grants(room), api.OK)
		holds(t, b, slices.Concat(grants(room), before)...)
		puts(t, b, grant(1), api.ErrFull)
		undoes(t, b, grants(1), api.ErrFull)
		undoes(t, b, nil, api.OK)
		holds(t, b, slices.Concat(grants(room), before)...)
	}
}

// P15.1: what was taken, where room for all of it is no more.
func TestUndoOfTakenIntoAFullOne(t *testing.T) {
	for _, most := range []int{1, 2, 3, 1023, 1024} {
		b := made(t, most)
		undoes(t, b, grants(most), api.OK)
		holds(t, b, grants(most)...)
		told := b.Take(most)
		puts(t, b, blocked(1, 1), api.OK)
		undoes(t, b, told, api.ErrFull)
		holds(t, b, blocked(1, 1))
		undoes(t, b, told[1:], api.OK)
		holds(t, b, append(told[1:], blocked(1, 1))...)
	}
}

// P15.1: ErrArg is named ahead of ErrFull, wherever the one is that may not be.
func TestUndoErrorsInOrder(t *testing.T) {
	b := with(t, 3, grant(1), grant(2))
	for _, e := range wrongs() {
		for _, n := range []int{1, 2, 5, 2000} {
			for _, i := range []int{0, n / 2, n} {
				undoes(t, b, slices.Insert(grants(n), i, e), api.ErrArg)
			}
		}
		holds(t, b, grant(1), grant(2))
	}
	undoes(t, b, grants(2), api.ErrFull)
	holds(t, b, grant(1), grant(2))
}

// P15.1: a thread that has none, one, some and all of the events, wherever they
// are; the others stay in their order. 0 is what those have that have no thread.
func TestDrop(t *testing.T) {
	for _, c := range []struct {
		threads []int
		thread  int
	}{
		{nil, 0}, {nil, 1}, {nil, -1},
		{[]int{1}, 1}, {[]int{1}, 2}, {[]int{1}, 0}, {[]int{0}, 0}, {[]int{0}, 1},
		{[]int{1, 2, 3}, 1}, {[]int{1, 2, 3}, 2}, {[]int{1, 2, 3}, 3}, {[]int{1, 2, 3}, 4}, {[]int{1, 2, 3}, 0},
		{[]int{1, 1, 2, 2, 1}, 1}, {[]int{1, 1, 2, 2, 1}, 2}, {[]int{2, 1, 2, 0, 1, 1}, 1}, {[]int{2, 1, 2, 0, 1, 1}, 0},
		{[]int{3, 3, 3, 3}, 3}, {[]int{0, 0, 0}, 0}, {[]int{3, 3, 3, 3}, -3}, {[]int{0, 0, 0}, -1},
		{[]int{1, 0, 1}, -1}, {[]int{1, 0, 1}, lowest}, {[]int{1, 0, 1}, highest}, {[]int{far, 1}, far}, {[]int{far, 1}, far + 1},
		{[]int{1, 1<<32 + 1}, 1}, {[]int{65536, 131072}, 131072},
	} {
		var l, left []api.Event
		for i, thread := range c.threads {
			e := []api.Event{blocked(i+1, thread), unblocked(i+1, thread, i), preempted(i+1, thread)}[i%3]
			if thread == 0 {
				e = grant(i + 1)
			}
			l = append(l, e)
			if thread != c.thread {
				left = append(left, e)
			}
		}
		b := with(t, 6, l...)
		drops(t, b, c.thread, len(l)-len(left))
		holds(t, b, left...)
		finds(t, b, c.thread, api.Event{}, false)
		drops(t, b, c.thread, 0)
		holds(t, b, left...)
	}
}

// P15.1: it is the thread that counts, not an activation or another number.
func TestDropGoesByThreads(t *testing.T) {
	b := with(t, 4, blocked(7, 1), unblocked(7, 2, 7), grant(7), preempted(1, 7))
	drops(t, b, 7, 1)
	holds(t, b, blocked(7, 1), unblocked(7, 2, 7), grant(7))
}

// P15.1
func TestCount(t *testing.T) {
	b := with(t, 9, some()...)
	for kind, want := range []int{0, 2, 1, 2, 2, 0, 0, 0, 0} {
		counts(t, b, kind, want)
	}
	for _, kind := range []int{lowest, -far, -4, -2, -1, 0, 5, 6, 7, 8, 9, 255, 257, 258, 1<<32 + 1, highest} {
		counts(t, b, kind, 0)
		counts(t, made(t, 1), kind, 0)
	}
	for i, e := range []api.Event{grant(1), preempted(1, 1), blocked(1, 1), unblocked(1, 1, 1)} {
		b := made(t, 1024)
		for n := range 1024 {
			counts(t, b, i+1, n)
			puts(t, b, e, api.OK)
		}
		counts(t, b, i+1, 1024)
		counts(t, b, i, 0)
		counts(t, b, i+2, 0)
	}
}

// P15.1: the first of a thread's, whatever its kind is; it stays.
func TestFind(t *testing.T) {
	b := with(t, 9, some()...)
	for range 2 {
		finds(t, b, 7, blocked(1, 7), true)
		finds(t, b, 8, unblocked(3, 8, 5), true)
		finds(t, b, 9, preempted(4, 9), true)
		finds(t, b, 0, grant(2), true)
		for _, thread := range []int{lowest, -7, -1, 1, 2, 3, 6, 10, 1<<32 + 7, far, highest} {
			finds(t, b, thread, api.Event{}, false)
		}
		holds(t, b, some()...)
	}
	takes(t, b, 1, blocked(1, 7))
	finds(t, b, 7, unblocked(1, 7, 1000), true)
	undoes(t, b, []api.Event{preempted(8, 7)}, api.OK)
	finds(t, b, 7, preempted(8, 7), true)
	drops(t, b, 7, 2)
	finds(t, b, 7, api.Event{}, false)
	none := with(t, 2, blocked(1, 7))
	finds(t, none, 0, api.Event{}, false)
	finds(t, made(t, 1), 0, api.Event{}, false)
}

// R3: what is told is the caller's, and so is the room behind it.
func TestAnswersAreNewMemory(t *testing.T) {
	b := with(t, 9, some()...)
	first, second := b.All(), b.All()
	spoil(first)
	if !slices.Equal(second, some()) {
		t.Errorf("the other one: %v, want %v", second, some())
	}
	holds(t, b, some()...)
	for most := 1; most < 6; most++ {
		b := with(t, 9, some()...)
		told := b.Take(most)
		n := len(told)
		spoil(told)
		holds(t, b, some()[n:]...)
		told = append(told, grant(99))
		spoil(told)
		puts(t, b, grant(1), api.OK)
		holds(t, b, append(some()[n:], grant(1))...)
	}
}

// R3: what was told stays as it was, whatever is done behind it.
func TestAnswersStay(t *testing.T) {
	b := with(t, 9, some()...)
	all := b.All()
	told := b.Take(3)
	rest := b.All()
	b.Undo(grants(2))
	b.Drop(8)
	b.Put(blocked(7, 7))
	b.Drop(7)
	b.Take(5)
	b.Put(grant(8))
	b.Put(grant(9))
	if !slices.Equal(all, some()) || !slices.Equal(told, some()[:3]) || !slices.Equal(rest, some()[3:]) {
		t.Errorf("behind other calls: %v, %v, %v", all, told, rest)
	}
}

// R3: what is handed to Undo is not changed, nor the room behind it, nor held.
func TestUndoMemory(t *testing.T) {
	for _, there := range []int{0, 1, 2} {
		whole := append(some(), grant(77), grant(78), grant(79))
		want := slices.Clone(whole)
		b := with(t, 20, grants(there)...)
		undoes(t, b, whole[:7], api.OK)
		b.Put(grant(5))
		b.Take(1)
		b.Drop(8)
		b.Undo(grants(2))
		b.Put(grant(6))
		if !slices.Equal(whole, want) {
			t.Errorf("Undo changed what it was given: %v", whole)
		}
		left := b.All()
		spoil(whole)
		holds(t, b, left...)
	}
	// Of what Take told, too.
	b := with(t, 9, some()...)
	told := b.Take(3)
	undoes(t, b, told, api.OK)
	spoil(told)
	holds(t, b, some()...)
	// Where it is refused, neither.
	for _, l := range [][]api.Event{append(grants(2), api.Event{}), grants(9)} {
		want := slices.Clone(l)
		if b.Undo(l) == api.OK || !slices.Equal(l, want) {
			t.Errorf("Undo changed what it was given: %v, want %v", l, want)
		}
		spoil(l)
		holds(t, b, some()...)
	}
}

// spoil writes over a list and the room behind it.
func spoil(l []api.Event) {
	for i := range l[:cap(l)] {
		l[:cap(l)][i] = api.Event{Kind: 9, Act: 9, Thread: 9, Value: 9}
	}
}

// P15.1: alike are the events and the room.
func TestCopy(t *testing.T) {
	for _, most := range []int{1, 2, 3, 1023, 1024} {
		b := made(t, most)
		other := b.Copy()
		if other == nil || other == b {
			t.Fatalf("Copy: %p of %p", other, b)
		}
		holds(t, other)
		for i := range most {
			puts(t, b, blocked(i+1, 7), api.OK)
		}
		holds(t, other)
		full := b.Copy()
		for _, one := range []*Box{b, full} {
			holds(t, one, b.All()...)
			puts(t, one, grant(1), api.ErrFull)
			undoes(t, one, grants(1), api.ErrFull)
		}
		undoes(t, other, grants(most+1), api.ErrFull)
		undoes(t, other, grants(most), api.OK)
		puts(t, other, grant(1), api.ErrFull)
		drops(t, b, 7, most)
		emptied := b.Copy()
		holds(t, emptied)
		undoes(t, emptied, grants(most+1), api.ErrFull)
		undoes(t, emptied, grants(most), api.OK)
		holds(t, full.Copy(), full.All()...)
	}
}

// P15.1, R3: what is done to one of both is not done to the other.
func TestCopyGoesItsOwnWay(t *testing.T) {
	for _, c := range []struct {
		name string
		do   func(b *Box)
		left []api.Event
	}{
		{"Put", func(b *Box) { b.Put(grant(9)) }, append(some(), grant(9))},
		{"Take", func(b *Box) { b.Take(1) }, some()[1:]},
		{"Take up to a Preempted one", func(b *Box) { b.Take(16) }, some()[5:]},
		{"Undo", func(b *Box) { b.Undo(grants(2)) }, slices.Concat(grants(2), some())},
		{"Take and Undo", func(b *Box) { b.Undo(b.Take(3)) }, some()},
		{"Drop of the first", func(b *Box) { b.Drop(7) }, slices.Concat(some()[1:3], some()[4:])},
		{"Drop and Put", func(b *Box) { b.Drop(9); b.Put(grant(9)) }, slices.Concat(some()[:4], some()[5:], []api.Event{grant(9)})},
		{"Drop of all", func(b *Box) { b.Drop(7); b.Drop(8); b.Drop(9); b.Drop(0) }, nil},
	} {
		t.Run(c.name, func(t *testing.T) {
			b := with(t, 10, some()...)
			other := b.Copy()
			c.do(other)
			holds(t, other, c.left...)
			holds(t, b, some()...)
			third := other.Copy()
			c.do(b)
			holds(t, b, c.left...)
			holds(t, other, c.left...)
			third.Drop(8)
			third.Put(grant(44))
			third.Take(2)
			third.Undo(grants(1))
			holds(t, b, c.left...)
			holds(t, other, c.left...)
		})
	}
}

// P15.1, R3: both have room where the other has events, and neither meets the other
// there.
func TestCopiesDoNotShareRoom(t *testing.T) {
	for there := range 9 {
		b := with(t, 20, grants(there)...)
		other := b.Copy()
		puts(t, b, blocked(1, 7), api.OK)
		puts(t, other, blocked(2, 8), api.OK)
		holds(t, b, append(grants(there), blocked(1, 7))...)
		holds(t, other, append(grants(there), blocked(2, 8))...)
	}
}

// P15.1, R5: of a Box that no call made. It changes nothing: behind all calls it
// still is none.
func TestOfNoneMade(t *testing.T) {
	var none *Box
	for _, b := range []*Box{nil, {}, New(0), New(-1), New(1025), (&Box{}).Copy(), none.Copy()} {
		for range 2 {
			// ErrMade is named ahead of ErrArg and ErrFull.
			for _, e := range append(wrongs(), some()...) {
				puts(t, b, e, api.ErrMade)
				undoes(t, b, []api.Event{e}, api.ErrMade)
			}
			for _, l := range [][]api.Event{nil, {}, some(), grants(2000)} {
				undoes(t, b, l, api.ErrMade)
			}
			for _, x := range []int{lowest, -1, 0, 1, 2, 7, 1024, highest} {
				takes(t, b, x)
				drops(t, b, x, 0)
				counts(t, b, x, 0)
				finds(t, b, x, api.Event{}, false)
			}
			holds(t, b)
			if b.Copy() != nil {
				t.Errorf("Copy: not nil")
			}
		}
	}
}
