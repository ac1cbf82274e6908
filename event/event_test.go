package event

import (
	"math"
	"slices"
	"testing"

	"wherry/api"
)

const (
	lowest  = math.MinInt
	highest = math.MaxInt
	far     = 1 << 40
)

// full are good events, one of each kind, by kinds, with all that their kinds have.
func full() []api.Event {
	c := api.Context{Program: 1, PC: 2, Depth: 3, Regs: [8]int{0, 1, -1, 64, -65, lowest, highest, 300}}
	return []api.Event{
		{Kind: Grant, Act: 2},
		{Kind: Preempted, Act: 3, Thread: 4, Context: c},
		{Kind: Blocked, Act: 5, Thread: 6},
		{Kind: Unblocked, Act: 3, Thread: 7, Value: 5},
		{Kind: Demand, Value: 8},
		{Kind: Idle, Act: 9},
		{Kind: Recycle, Act: 10},
	}
}

// grants are so many events, each with another Act, from 1 on.
func grants(count int) []api.Event {
	l := make([]api.Event, count)
	for i := range l {
		l[i] = api.Event{Kind: Grant, Act: i + 1}
	}
	return l
}

// odd are kinds that there are not.
func odd() []int {
	return []int{0, -1, -2, -4, -7, lowest, 8, 9, 255, 256, 256 + Grant, 256 + Unblocked, far + 1, 1<<32 + Grant, highest}
}

// P14.1: the numbers of the kinds.
func TestKinds(t *testing.T) {
	got := []int{Grant, Preempted, Blocked, Unblocked, Demand, Idle, Recycle}
	if want := []int{1, 2, 3, 4, 5, 6, 7}; !slices.Equal(got, want) {
		t.Errorf("kinds: %v, want %v", got, want)
	}
}

// P14.1
func TestUp(t *testing.T) {
	for kind := -3; kind < 300; kind++ {
		want := kind == 1 || kind == 2 || kind == 3 || kind == 4
		if Up(kind) != want {
			t.Errorf("Up(%d): %v", kind, Up(kind))
		}
	}
	for _, kind := range odd() {
		if Up(kind) {
			t.Errorf("Up(%d)", kind)
		}
	}
}

// good holds Good against what is wanted.
func good(t *testing.T, e api.Event, want bool) {
	t.Helper()
	if Good(e) != want {
		t.Errorf("Good(%v): %v", e, Good(e))
	}
}

// P14.1: no kind but the seven, whatever else the event has.
func TestGoodKinds(t *testing.T) {
	for _, e := range full() {
		good(t, e, true)
		for _, kind := range odd() {
			e.Kind = kind
			good(t, e, false)
		}
	}
	for _, kind := range odd() {
		good(t, api.Event{Kind: kind}, false)
	}
	good(t, api.Event{}, false)
}

// P14.1: what each kind has, and what is 0 of the others.
func TestGoodNumbers(t *testing.T) {
	const (
		none   = iota // it is 0
		ids           // 1 to 2^40
		values        // 0 to 1000
	)
	may := func(what, n int) bool {
		switch what {
		case ids:
			return 1 <= n && n <= 1<<40
		case values:
			return 0 <= n && n <= 1000
		}
		return n == 0
	}
	edges := []int{lowest, -far - 1, -far, -1000, -1, 0, 1, 2, 999, 1000, 1001, 65536, far - 1, far, far + 1, 1 << 62, highest}
	for i, has := range [][3]int{
		{ids, none, none},
		{ids, ids, none},
		{ids, ids, none},
		{ids, ids, values},
		{none, none, values},
		{ids, none, none},
		{ids, none, none},
	} {
		for _, n := range edges {
			e := full()[i]
			e.Act = n
			good(t, e, may(has[0], n))
			e = full()[i]
			e.Thread = n
			good(t, e, may(has[1], n))
			e = full()[i]
			e.Value = n
			good(t, e, may(has[2], n))
		}
	}
}

// P14.1: the ends that the chapter names, written out.
func TestGoodEnds(t *testing.T) {
	for _, e := range []api.Event{
		{Kind: Grant, Act: 1}, {Kind: Grant, Act: far},
		{Kind: Preempted, Act: 1, Thread: 1}, {Kind: Preempted, Act: far, Thread: far},
		{Kind: Blocked, Act: 1, Thread: far}, {Kind: Blocked, Act: far, Thread: 1},
		{Kind: Unblocked, Act: 1, Thread: 1}, {Kind: Unblocked, Act: far, Thread: far, Value: 1000},
		{Kind: Demand}, {Kind: Demand, Value: 1000},
		{Kind: Idle, Act: 1}, {Kind: Idle, Act: far},
		{Kind: Recycle, Act: 1}, {Kind: Recycle, Act: far},
	} {
		good(t, e, true)
	}
	for _, e := range []api.Event{
		{Kind: Grant}, {Kind: Grant, Act: far + 1}, {Kind: Grant, Act: 1, Thread: 1}, {Kind: Grant, Act: 1, Value: 1},
		{Kind: Preempted, Act: 1}, {Kind: Preempted, Thread: 1}, {Kind: Preempted, Act: 1, Thread: far + 1},
		{Kind: Preempted, Act: 1, Thread: 1, Value: 1},
		{Kind: Blocked, Act: 1}, {Kind: Blocked, Thread: 1}, {Kind: Blocked, Act: 1, Thread: 1, Value: 1},
		{Kind: Unblocked, Act: 1, Value: 1}, {Kind: Unblocked, Act: 1, Thread: 1, Value: -1},
		{Kind: Unblocked, Act: 1, Thread: 1, Value: 1001},
		{Kind: Demand, Act: 1}, {Kind: Demand, Act: far}, {Kind: Demand, Act: -1}, {Kind: Demand, Thread: 1},
		{Kind: Demand, Value: -1}, {Kind: Demand, Value: 1001},
		{Kind: Idle}, {Kind: Idle, Act: 1, Thread: 1}, {Kind: Idle, Act: 1, Value: 1}, {Kind: Idle, Act: -1},
		{Kind: Recycle}, {Kind: Recycle, Act: 1, Thread: 1}, {Kind: Recycle, Act: 1, Value: 1}, {Kind: Recycle, Act: far + 1},
	} {
		good(t, e, false)
	}
}

// P14.1: a context of a Preempted one's, and zero of the others.
func TestGoodContext(t *testing.T) {
	type change struct {
		put  func(c *api.Context, n int)
		most int
	}
	changes := []change{
		{func(c *api.Context, n int) { c.Program = n }, 7},
		{func(c *api.Context, n int) { c.PC = n }, 64},
		{func(c *api.Context, n int) { c.Depth = n }, 8},
	}
	edges := []int{lowest, -far, -1, 0, 1, 6, 7, 8, 9, 63, 64, 65, 66, 1000, far, highest}
	for _, e := range full() {
		for _, ch := range changes {
			for _, n := range edges {
				for _, before := range []api.Context{{}, e.Context} {
					x := e
					x.Context = before
					ch.put(&x.Context, n)
					preempted := e.Kind == Preempted && n >= 0 && n <= ch.most
					good(t, x, preempted || x.Context == api.Context{})
				}
			}
		}
		for i := range api.MaxRegs {
			for _, n := range []int{lowest, lowest + 1, -1, 0, 1, far, highest} {
				x := e
				x.Context.Regs[i] = n
				good(t, x, e.Kind == Preempted || n == 0)
			}
		}
	}
}

// P14.2
func TestText(t *testing.T) {
	for _, c := range []struct {
		e    api.Event
		want string
	}{
		{api.Event{Kind: Grant, Act: 2}, "grant 2"},
		{api.Event{Kind: Preempted, Act: 3, Thread: 4}, "preempted 3 4"},
		{full()[1], "preempted 3 4"},
		{api.Event{Kind: Blocked, Act: 5, Thread: 6}, "blocked 5 6"},
		{api.Event{Kind: Unblocked, Act: 3, Thread: 7, Value: 5}, "unblocked 3 7 5"},
		{api.Event{Kind: Unblocked, Act: 3, Thread: 7}, "unblocked 3 7"},
		{api.Event{Kind: Unblocked, Act: far, Thread: far, Value: 1000}, "unblocked 1099511627776 1099511627776 1000"},
		{api.Event{Kind: Demand, Value: 64}, "demand 64"},
		{api.Event{Kind: Demand}, "demand"},
		{api.Event{Kind: Idle, Act: 9}, "idle 9"},
		{api.Event{Kind: Recycle, Act: 10}, "recycle 10"},
		// Of those that are not Good, too: what is not 0.
		{api.Event{Kind: Grant}, "grant"},
		{api.Event{Kind: Preempted}, "preempted"},
		{api.Event{Kind: Preempted, Thread: 4}, "preempted 4"},
		{api.Event{Kind: Blocked, Act: 5}, "blocked 5"},
		{api.Event{Kind: Unblocked, Value: 5}, "unblocked 5"},
		{api.Event{Kind: Unblocked, Act: 3, Value: 5}, "unblocked 3 5"},
		{api.Event{Kind: Unblocked, Thread: 7, Value: 5}, "unblocked 7 5"},
		{api.Event{Kind: Demand, Act: 1, Value: 2}, "demand 1 2"},
		{api.Event{Kind: Idle, Act: -1}, "idle -1"},
		{api.Event{Kind: Idle}, "idle"},
		{api.Event{Kind: Recycle}, "recycle"},
		{api.Event{Kind: Recycle, Act: lowest, Thread: highest, Value: -5}, "recycle -9223372036854775808 9223372036854775807 -5"},
	} {
		if got := Text(c.e); got != c.want {
			t.Errorf("Text(%v): %q, want %q", c.e, got, c.want)
		}
	}
}

// P14.2: a kind that is none has no name, but its numbers are told all the same.
func TestTextOfNoKind(t *testing.T) {
	for _, kind := range odd() {
		for _, c := range []struct {
			e    api.Event
			want string
		}{
			{api.Event{}, ""},
			{api.Event{Context: full()[1].Context}, ""},
			{api.Event{Act: 3}, " 3"},
			{api.Event{Thread: 1}, " 1"},
			{api.Event{Value: 1}, " 1"},
			{api.Event{Thread: 2, Value: 9}, " 2 9"},
			{api.Event{Act: 1, Thread: 2, Value: 3}, " 1 2 3"},
			{api.Event{Act: 3, Thread: -4, Value: 5}, " 3 -4 5"},
			{api.Event{Act: lowest, Value: highest}, " -9223372036854775808 9223372036854775807"},
		} {
			c.e.Kind = kind
			if got := Text(c.e); got != c.want {
				t.Errorf("Text(%v): %q, want %q", c.e, got, c.want)
			}
		}
	}
}

// same holds Same, both ways, against what is wanted.
func same(t *testing.T, a, b []api.Event, want bool) {
	t.Helper()
	if Same(a, b) != want || Same(b, a) != want {
		t.Errorf("Same(%v, %v): %v, %v, want %v", a, b, Same(a, b), Same(b, a), want)
	}
}

// P14.2: whether they are Good or not.
func TestSame(t *testing.T) {
	same(t, nil, nil, true)
	same(t, nil, []api.Event{}, true)
	same(t, full()[:0], []api.Event{}, true)
	same(t, nil, []api.Event{{}}, false)
	same(t, full(), full(), true)
	same(t, []api.Event{{}}, []api.Event{{}}, true)
	same(t, []api.Event{{Kind: -5}}, []api.Event{{Kind: -5}}, true)
	for i := range full() {
		same(t, full(), full()[:i], false)
		same(t, full(), slices.Concat(full()[:i], full()[i+1:]), false)
	}
	same(t, full(), slices.Concat(full(), []api.Event{{}}), false)
	swapped := full()
	swapped[0], swapped[6] = swapped[6], swapped[0]
	same(t, full(), swapped, false)
	for i := range full() {
		for _, change := range []func(e *api.Event){
			func(e *api.Event) { e.Kind++ },
			func(e *api.Event) { e.Act++ },
			func(e *api.Event) { e.Thread-- },
			func(e *api.Event) { e.Value = -e.Value - 1 },
			func(e *api.Event) { e.Context.Program++ },
			func(e *api.Event) { e.Context.PC++ },
			func(e *api.Event) { e.Context.Depth++ },
		} {
			other := full()
			change(&other[i])
			same(t, full(), other, false)
		}
		for r := range api.MaxRegs {
			other := full()
			other[i].Context.Regs[r] ^= 1
			same(t, full(), other, false)
		}
	}
}

// batched holds Batch against l, cut at a place.
func batched(t *testing.T, l []api.Event, most, at int) {
	t.Helper()
	if a, b := Batch(l, most); !slices.Equal(a, l[:at]) || !slices.Equal(b, l[at:]) {
		t.Errorf("Batch(%v, %d): %v, %v, want it cut at %d", l, most, a, b, at)
	}
}

// P14.3
func TestBatch(t *testing.T) {
	for _, most := range []int{lowest, -1, 0, 1, 2, 9, highest} {
		batched(t, nil, most, 0)
		batched(t, []api.Event{}, most, 0)
		batched(t, full()[:0], most, 0)
		batched(t, grants(1), most, 1)
		batched(t, []api.Event{{Kind: Preempted}}, most, 1)
		batched(t, []api.Event{{Kind: Preempted}, {Kind: Grant, Act: 1}}, most, 1)
	}
	for _, most := range []int{lowest, lowest + 1, -far, -1, 0, 1} {
		batched(t, grants(5), most, 1)
	}
	for most := 1; most < 6; most++ {
		batched(t, grants(5), most, most)
	}
	for _, most := range []int{5, 6, 7, 1024, far, highest} {
		batched(t, grants(5), most, 5)
		batched(t, grants(2000), most, min(most, 2000))
	}
}

// P14.3: a Preempted one is the last, wherever it is, as far as most goes.
func TestBatchOfPreempted(t *testing.T) {
	for first := range 7 {
		for second := first; second < 7; second++ {
			l := grants(7)
			l[first], l[second] = full()[1], full()[1]
			for most := -1; most < 10; most++ {
				batched(t, l, most, min(max(most, 1), first+1))
			}
		}
	}
	// Only the kind counts, and no other one ends it.
	for _, e := range append(full(), api.Event{}, api.Event{Kind: -2}, api.Event{Kind: 8}, api.Event{Kind: 256 + Preempted}) {
		l := []api.Event{{Kind: Demand}, e, {Kind: Idle}}
		if e.Kind == Preempted {
			batched(t, l, 9, 2)
		} else {
			batched(t, l, 9, 3)
		}
	}
}

// R3: what is handed in stays, the room behind it too, and the two lists are new
// memory, each its own.
func TestBatchMemory(t *testing.T) {
	for most := 1; most < 6; most++ {
		whole := append(grants(4), api.Event{Kind: 77}, api.Event{Kind: 78})
		want := slices.Clone(whole)
		l := whole[:4]
		a, b := Batch(l, most)
		at := len(a)
		for _, one := range [][]api.Event{a, b} {
			one = one[:cap(one)]
			for i := range one {
				one[i].Act = -1
			}
			if !slices.Equal(whole, want) {
				t.Errorf("Batch of %d shares what it was given: %v", most, whole)
			}
		}
		a, b = Batch(l, most)
		clear(whole)
		if !slices.Equal(a, want[:at]) || !slices.Equal(b, want[at:4]) {
			t.Errorf("Batch of %d kept what it was given: %v, %v", most, a, b)
		}
		a = append(a, api.Event{Kind: 99})
		if !slices.Equal(b, want[at:4]) {
			t.Errorf("the lists of Batch of %d share: %v, %v", most, a, b)
		}
		clear(b[:cap(b)])
		if !slices.Equal(a[:at], want[:at]) {
			t.Errorf("the lists of Batch of %d share: %v, %v", most, a, b)
		}
	}
}
