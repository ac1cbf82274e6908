package life

import (
	"math"
	"slices"
	"testing"

	"wherry/api"
)

const (
	lowest  = math.MinInt
	highest = math.MaxInt
	age     = 65536 // what an id is more when its index is taken once more
)

// odd are numbers that are no id, space, state, core or count in the tests here.
func odd() []int {
	return []int{lowest, lowest + 1, -1 << 40, -65536, -2, 1 << 47, 1<<47 + 65536, highest - 1, highest}
}

// anyContext is another one for each seed, and may be one that no event can have.
func anyContext(seed int) api.Context {
	return api.Context{Program: seed, PC: -seed, Regs: [8]int{lowest, seed, 2: highest, 7: -seed}, Depth: seed + 1}
}

// made is New's answer, which may not be nil here.
func made(t *testing.T, most int) *Table {
	t.Helper()
	x := New(most)
	if x == nil {
		t.Fatalf("New(%d): nil", most)
	}
	return x
}

// is looks at an answer that is an error's number alone.
func is(t *testing.T, call string, got, want api.Errno) {
	t.Helper()
	if got != want {
		t.Errorf("%s: %v, want %v", call, got, want)
	}
}

// makes asks for an activation, and which it is.
func makes(t *testing.T, x *Table, space, id int, want api.Errno) {
	t.Helper()
	if got, err := x.Make(space); got != id || err != want {
		t.Errorf("Make(%d): %d, %v, want %d, %v", space, got, err, id, want)
	}
}

// one makes an activation, whichever it is.
func one(t *testing.T, x *Table, space int) int {
	t.Helper()
	id, err := x.Make(space)
	if err != api.OK {
		t.Fatalf("Make(%d): %v", space, err)
	}
	return id
}

func drops(t *testing.T, x *Table, space, want int) {
	t.Helper()
	if got := x.Drop(space); got != want {
		t.Errorf("Drop(%d): %d, want %d", space, got, want)
	}
}

func counts(t *testing.T, x *Table, space, state, want int) {
	t.Helper()
	if got := x.Count(space, state); got != want {
		t.Errorf("Count(%d, %d): %d, want %d", space, state, got, want)
	}
}

func gets(t *testing.T, x *Table, id int, want Act, ok bool) {
	t.Helper()
	if got, has := x.Get(id); got != want || has != ok {
		t.Errorf("Get(%d): %v, %v, want %v, %v", id, got, has, want, ok)
	}
}

// holds looks that just these activations are there, in this order, by all that x tells
// of itself.
func holds(t *testing.T, x *Table, want ...Act) {
	t.Helper()
	if got := x.All(); !slices.Equal(got, want) {
		t.Errorf("All: %v, want %v", got, want)
	}
	number := make(map[[2]int]int)
	for _, a := range want {
		gets(t, x, a.Id, a, true)
		number[[2]int{a.Space, a.State}]++
	}
	for space := range api.MaxSpaces + 2 {
		for state := range 7 {
			counts(t, x, space, state, number[[2]int{space, state}])
		}
	}
}

// fresh is a Fresh activation.
func fresh(id, space int) Act {
	return Act{Id: id, State: Fresh, Space: space, Core: -1}
}

// in makes an activation of space 3 that is in that state, and tells it. One that can
// have a thread has 7, one that can have a Context has it, and Running is on core 5.
func in(t *testing.T, x *Table, state int) Act {
	t.Helper()
	a := fresh(one(t, x, 3), 3)
	if state != Fresh {
		is(t, "Run", x.Run(a.Id, 5), api.OK)
		is(t, "Load", x.Load(a.Id, 7), api.OK)
		a.State, a.Core, a.Thread = state, -1, 7
	}
	switch state {
	case Running:
		a.Core = 5
	case Blocked:
		is(t, "Block", x.Block(a.Id), api.OK)
	case Preempted:
		is(t, "Preempt", x.Preempt(a.Id, anyContext(1)), api.OK)
		a.Context = anyContext(1)
	case Cached:
		is(t, "Cache", x.Cache(a.Id), api.OK)
		a.Thread = 0
	}
	gets(t, x, a.Id, a, true)
	return a
}

// call is a call on one activation, with arguments that may be, and ones that may not.
type call struct {
	name  string
	do    func(x *Table, id int) api.Errno
	wrong []func(x *Table, id int) api.Errno
	from  []int // the states that may be
}

// calls are those on one activation; core 6 is free wherever they are used.
func calls() []call {
	onCore := func(core int) func(x *Table, id int) api.Errno {
		return func(x *Table, id int) api.Errno { return x.Run(id, core) }
	}
	withThread := func(thread int) func(x *Table, id int) api.Errno {
		return func(x *Table, id int) api.Errno { return x.Load(id, thread) }
	}
	type calls = []func(x *Table, id int) api.Errno
	return []call{
		{"Run", onCore(6), calls{onCore(lowest), onCore(-1), onCore(64), onCore(highest)}, []int{Fresh}},
		{"Load", withThread(9), calls{withThread(lowest), withThread(-1)}, []int{Running}},
		{"Block", (*Table).Block, nil, []int{Running}},
		{"Preempt", func(x *Table, id int) api.Errno { return x.Preempt(id, anyContext(2)) }, nil, []int{Running}},
		{"Cache", (*Table).Cache, nil, []int{Running, Blocked, Preempted}},
		{"Discard", (*Table).Discard, nil, []int{Fresh, Cached}},
	}
}

// The chapter's example.
func TestExample(t *testing.T) {
	x := made(t, 4)
	makes(t, x, 1, 65536, api.OK)
	is(t, "Run", x.Run(65536, 2), api.OK)
	is(t, "Load", x.Load(65536, 7), api.OK)
	is(t, "Block", x.Block(65536), api.OK)
	holds(t, x, Act{Id: 65536, State: 3, Space: 1, Core: -1, Thread: 7})
}

func TestStates(t *testing.T) {
	if got := [5]int{Fresh, Running, Blocked, Preempted, Cached}; got != [5]int{1, 2, 3, 4, 5} {
		t.Errorf("the states: %v", got)
	}
}

// P16.1
func TestNew(t *testing.T) {
	for _, most := range append(odd(), -4096, -1, 0, 4097, 4098, 65536, 1<<32+1) {
		if New(most) != nil {
			t.Errorf("New(%d): not nil", most)
		}
	}
	for _, most := range []int{1, 2, 64, 1024, 4095, 4096} {
		holds(t, made(t, most))
	}
}

// P16.1
func TestNewTellsOneOfItsOwn(t *testing.T) {
	a, b := made(t, 2), made(t, 2)
	makes(t, a, 1, age, api.OK)
	holds(t, a, fresh(age, 1))
	holds(t, b)
	makes(t, b, 2, age, api.OK)
	is(t, "Discard", a.Discard(age), api.OK)
	holds(t, a)
	holds(t, b, fresh(age, 2))
}

// P16.1: which spaces there are.
func TestMakeForSpaces(t *testing.T) {
	x := made(t, 20)
	var want []Act
	for space := 1; space <= 16; space++ {
		makes(t, x, space, age+space-1, api.OK)
		want = append(want, fresh(age+space-1, space))
		holds(t, x, want...)
	}
	for _, space := range append(odd(), -16, -1, 0, 17, 18, 255, 257, 1<<32+1) {
		makes(t, x, space, 0, api.ErrArg)
	}
	holds(t, x, want...)
}

// P16.1: new ones, as slots' Take gives them, up to the bound.
func TestMakeNewOnes(t *testing.T) {
	for _, most := range []int{1, 2, 3, 64, 65, 4095, 4096} {
		x := made(t, most)
		var want []Act
		for i := range most {
			space := 1 + i%16
			makes(t, x, space, age+i, api.OK)
			want = append(want, fresh(age+i, space))
		}
		for _, space := range []int{1, 2, 16} {
			makes(t, x, space, 0, api.ErrFull)
		}
		holds(t, x, want...)
		// A place that is free again is the next one's, with another id.
		last := want[most-1]
		is(t, "Discard", x.Discard(last.Id), api.OK)
		makes(t, x, 5, 2*age+most-1, api.OK)
		makes(t, x, 5, 0, api.ErrFull)
		want[most-1] = fresh(2*age+most-1, 5)
		holds(t, x, want...)
	}
}

// P16.1: ErrArg is named ahead of ErrFull.
func TestMakeErrorsInOrder(t *testing.T) {
	x := made(t, 1)
	makes(t, x, 1, age, api.OK)
	for _, space := range append(odd(), -1, 0, 17) {
		makes(t, x, space, 0, api.ErrArg)
	}
	makes(t, x, 2, 0, api.ErrFull)
	holds(t, x, fresh(age, 1))
}

// ran makes new ones of these spaces, and has each run on a core and with a thread.
func ran(t *testing.T, x *Table, spaces ...int) []int {
	t.Helper()
	var ids []int
	for i, space := range spaces {
		id := one(t, x, space)
		is(t, "Run", x.Run(id, i), api.OK)
		is(t, "Load", x.Load(id, 100+i), api.OK)
		ids = append(ids, id)
	}
	return ids
}

// P16.1: the Cached one of the space with the least id is made again, whichever was
// Cached first, and without room, too.
func TestMakeOfCached(t *testing.T) {
	for _, order := range [][]int{{0}, {3}, {0, 3}, {3, 0}, {4, 3, 0}, {3, 4, 0}, {0, 4, 3}, {4, 0}} {
		x := made(t, 5)
		ids := ran(t, x, 1, 2, 2, 1, 1)
		for _, i := range order {
			is(t, "Preempt", x.Preempt(ids[i], anyContext(i)), api.OK)
			is(t, "Cache", x.Cache(ids[i]), api.OK)
		}
		rising := slices.Clone(order)
		slices.Sort(rising)
		for n, i := range rising {
			counts(t, x, 1, Cached, len(order)-n)
			makes(t, x, 2, 0, api.ErrFull) // one of another space is none for this one
			makes(t, x, 1, ids[i], api.OK)
			gets(t, x, ids[i], fresh(ids[i], 1), true)
		}
		makes(t, x, 1, 0, api.ErrFull)
	}
}

// P16.1: by ids, not by places: one that is younger stands at a lesser index here.
func TestMakeOfCachedByIds(t *testing.T) {
	x := made(t, 3)
	ids := ran(t, x, 1, 1)
	is(t, "Cache", x.Cache(ids[0]), api.OK)
	is(t, "Discard", x.Discard(ids[0]), api.OK)
	makes(t, x, 1, 2*age, api.OK)
	is(t, "Run", x.Run(2*age, 9), api.OK)
	is(t, "Cache", x.Cache(2*age), api.OK)
	is(t, "Cache", x.Cache(ids[1]), api.OK)
	makes(t, x, 1, age+1, api.OK)
	makes(t, x, 1, 2*age, api.OK)
	makes(t, x, 1, age+2, api.OK)
	holds(t, x, fresh(age+1, 1), fresh(age+2, 1), fresh(2*age, 1))
}

// P16.1: where Cached ones of another space are alone, a new one is made.
func TestMakeBesideCachedOfAnother(t *testing.T) {
	x := made(t, 3)
	ids := ran(t, x, 2, 3)
	for _, id := range ids {
		is(t, "Cache", x.Cache(id), api.OK)
	}
	makes(t, x, 1, age+2, api.OK)
	makes(t, x, 1, 0, api.ErrFull)
	makes(t, x, 3, ids[1], api.OK)
	makes(t, x, 3, 0, api.ErrFull)
	holds(t, x, Act{Id: age, State: Cached, Space: 2, Core: -1}, fresh(age+1, 3), fresh(age+2, 1))
}

// P16.1: only Cached ones are made again, not those in other states.
func TestMakeBesideOthers(t *testing.T) {
	for _, state := range []int{Fresh, Running, Blocked, Preempted} {
		x := made(t, 2)
		a := in(t, x, state)
		makes(t, x, 3, age+1, api.OK)
		makes(t, x, 3, 0, api.ErrFull)
		holds(t, x, a, fresh(age+1, 3))
	}
}

// P16.2: what each call makes of an activation, in each state that may be.
func TestSteps(t *testing.T) {
	for _, c := range []struct {
		state int
		name  string
		do    func(x *Table, id int) api.Errno
		want  Act
	}{
		{Fresh, "Run", func(x *Table, id int) api.Errno { return x.Run(id, 6) }, Act{State: Running, Core: 6}},
		{Running, "Load of another", func(x *Table, id int) api.Errno { return x.Load(id, 8) }, Act{State: Running, Core: 5, Thread: 8}},
		{Running, "Load again", func(x *Table, id int) api.Errno { return x.Load(id, 7) }, Act{State: Running, Core: 5, Thread: 7}},
		{Running, "Load of a great one", func(x *Table, id int) api.Errno { return x.Load(id, highest) }, Act{State: Running, Core: 5, Thread: highest}},
		{Running, "Load of none", func(x *Table, id int) api.Errno { return x.Load(id, 0) }, Act{State: Running, Core: 5}},
		{Running, "Block", (*Table).Block, Act{State: Blocked, Core: -1, Thread: 7}},
		{Running, "Preempt", func(x *Table, id int) api.Errno { return x.Preempt(id, anyContext(3)) }, Act{State: Preempted, Core: -1, Thread: 7, Context: anyContext(3)}},
		{Running, "Preempt with nothing", func(x *Table, id int) api.Errno { return x.Preempt(id, api.Context{}) }, Act{State: Preempted, Core: -1, Thread: 7}},
		{Running, "Cache", (*Table).Cache, Act{State: Cached, Core: -1}},
		{Blocked, "Cache", (*Table).Cache, Act{State: Cached, Core: -1}},
		{Preempted, "Cache", (*Table).Cache, Act{State: Cached, Core: -1}},
	} {
		t.Run(c.name, func(t *testing.T) {
			x := made(t, 3)
			before, a, behind := one(t, x, 3), in(t, x, c.state), one(t, x, 4)
			is(t, c.name, c.do(x, a.Id), api.OK)
			c.want.Id, c.want.Space = a.Id, 3
			holds(t, x, fresh(before, 3), c.want, fresh(behind, 4))
		})
	}
}

// P16.2: each call in each state, and that one that may not be changes nothing.
func TestStepsByStates(t *testing.T) {
	for _, c := range calls() {
		for _, state := range []int{Fresh, Running, Blocked, Preempted, Cached} {
			x := made(t, 2)
			a := in(t, x, state)
			want := api.ErrState
			if slices.Contains(c.from, state) {
				want = api.OK
			}
			got := c.do(x, a.Id)
			if got != want {
				t.Errorf("%s in state %d: %v, want %v", c.name, state, got, want)
			}
			if want != api.OK {
				holds(t, x, a)
			}
		}
	}
}

// P16.2: ErrState is named ahead of ErrArg and ErrFull.
func TestStepsErrState(t *testing.T) {
	for _, c := range calls() {
		for _, state := range []int{Fresh, Running, Blocked, Preempted, Cached} {
			x := made(t, 2)
			a := in(t, x, state)
			want := api.ErrState
			if slices.Contains(c.from, state) {
				want = api.ErrArg
			}
			for _, wrong := range c.wrong {
				if got := wrong(x, a.Id); got != want {
					t.Errorf("%s with what may not be, in state %d: %v, want %v", c.name, state, got, want)
				}
			}
			holds(t, x, a)
		}
	}
	x := made(t, 3)
	a, b := in(t, x, Running), one(t, x, 3)
	is(t, "Run of a Running one where it runs", x.Run(a.Id, 5), api.ErrState)
	is(t, "Run of a Running one elsewhere", x.Run(a.Id, 6), api.ErrState)
	holds(t, x, a, fresh(b, 3))
}

// P16.2: ErrNone of what was never given, what is no more, and numbers that are no id;
// it is named ahead of all others.
func TestStepsErrNone(t *testing.T) {
	x := made(t, 5)
	stays := in(t, x, Running)
	discarded := one(t, x, 4)
	cached := one(t, x, 4)
	dropped := one(t, x, 5)
	is(t, "Run", x.Run(cached, 8), api.OK)
	is(t, "Cache", x.Cache(cached), api.OK)
	is(t, "Discard", x.Discard(discarded), api.OK)
	is(t, "Discard", x.Discard(cached), api.OK)
	drops(t, x, 5, 1)
	// One at the place of an id that is no more is another one.
	later := fresh(one(t, x, 4), 4)
	if later.Id != discarded+age {
		t.Errorf("Make: %d, want %d", later.Id, discarded+age)
	}
	none := append(odd(), -age, -1, 0, 1, 5, 65535, age+4, age+5, age+4095, 2*age, 2*age+2, 3*age+1,
		-stays.Id, stays.Id+1<<32, discarded, cached, dropped)
	for _, id := range none {
		for _, c := range calls() {
			for _, do := range append(c.wrong, c.do) {
				if got := do(x, id); got != api.ErrNone {
					t.Errorf("%s(%d): %v, want %v", c.name, id, got, api.ErrNone)
				}
			}
		}
		gets(t, x, id, Act{}, false)
	}
	is(t, "Run on a core that another one has", x.Run(discarded, 5), api.ErrNone)
	holds(t, x, stays, later)
}

// P16.2: which cores there are.
func TestRunOnCores(t *testing.T) {
	x := made(t, 70)
	var want []Act
	for core := range 64 {
		a := fresh(one(t, x, 1+core%3), 1+core%3)
		for _, none := range append(odd(), -64, -1, 64, 65, 256, 1<<32) {
			is(t, "Run on none", x.Run(a.Id, none), api.ErrArg)
		}
		gets(t, x, a.Id, a, true)
		is(t, "Run", x.Run(a.Id, core), api.OK)
		a.State, a.Core = Running, core
		want = append(want, a)
		holds(t, x, want...)
	}
	last := fresh(one(t, x, 1), 1)
	for core := range 64 {
		is(t, "Run on a core that another one has", x.Run(last.Id, core), api.ErrFull)
	}
	is(t, "Run on none", x.Run(last.Id, 64), api.ErrArg)
	holds(t, x, append(want, last)...)
}

// P16.2, P16.3: a core that one has is no other one's, of its space or another one,
// until that one leaves it, in each way that it can.
func TestRunOnACoreThatWasLeft(t *testing.T) {
	for _, c := range []struct {
		name  string
		leave func(x *Table, id int) bool
	}{
		{"Block", func(x *Table, id int) bool { return x.Block(id) == api.OK }},
		{"Preempt", func(x *Table, id int) bool { return x.Preempt(id, anyContext(1)) == api.OK }},
		{"Cache", func(x *Table, id int) bool { return x.Cache(id) == api.OK }},
		{"Cache and Discard", func(x *Table, id int) bool { return x.Cache(id) == api.OK && x.Discard(id) == api.OK }},
		{"Drop", func(x *Table, id int) bool { return x.Drop(3) == 1 }},
	} {
		t.Run(c.name, func(t *testing.T) {
			for _, core := range []int{0, 5, 63} {
				x := made(t, 3)
				a := one(t, x, 3)
				is(t, "Run", x.Run(a, core), api.OK)
				is(t, "Load", x.Load(a, 7), api.OK)
				b, d := one(t, x, 4), one(t, x, 4)
				for range 2 {
					is(t, "Run where another one is", x.Run(b, core), api.ErrFull)
				}
				gets(t, x, b, fresh(b, 4), true)
				if !c.leave(x, a) {
					t.Fatalf("%s was refused", c.name)
				}
				is(t, "Run", x.Run(b, core), api.OK)
				gets(t, x, b, Act{Id: b, State: Running, Space: 4, Core: core}, true)
				is(t, "Run where another one is", x.Run(d, core), api.ErrFull)
				gets(t, x, d, fresh(d, 4), true)
			}
		})
	}
}

// P16.2: threads, one behind the other, and that none counts as having one.
func TestLoad(t *testing.T) {
	x := made(t, 1)
	id := one(t, x, 1)
	is(t, "Run", x.Run(id, 0), api.OK)
	want := Act{Id: id, State: Running, Space: 1}
	is(t, "Block without a thread", x.Block(id), api.ErrState)
	for _, thread := range []int{1, 2, 2, 0, 65536, 1 << 40, 1<<40 + 1, 0, 0, highest} {
		is(t, "Load", x.Load(id, thread), api.OK)
		want.Thread = thread
		holds(t, x, want)
		for _, none := range []int{lowest, lowest + 1, -65536, -1} {
			is(t, "Load of none", x.Load(id, none), api.ErrArg)
		}
		if thread == 0 {
			is(t, "Block without a thread", x.Block(id), api.ErrState)
		}
		holds(t, x, want)
	}
	is(t, "Block", x.Block(id), api.OK)
	holds(t, x, Act{Id: id, State: Blocked, Space: 1, Core: -1, Thread: highest})
}

// P16.2: two may have one thread; a Table does not ask.
func TestLoadOfOneThreadTwice(t *testing.T) {
	x := made(t, 2)
	for core := range 2 {
		id := one(t, x, 1)
		is(t, "Run", x.Run(id, core), api.OK)
		is(t, "Load", x.Load(id, 7), api.OK)
		gets(t, x, id, Act{Id: id, State: Running, Space: 1, Core: core, Thread: 7}, true)
	}
}

// P16.2: with any Context, with a thread and without.
func TestPreempt(t *testing.T) {
	for _, c := range []api.Context{
		{}, anyContext(1), anyContext(-1), {Program: highest, PC: highest, Depth: highest},
		{Program: lowest, PC: lowest, Depth: lowest}, {Regs: [8]int{1, 2, 3, 4, 5, 6, 7, 8}}, {PC: 64, Depth: 9, Program: 8},
	} {
		for _, thread := range []int{0, 1, highest} {
			x := made(t, 1)
			id := one(t, x, 16)
			is(t, "Run", x.Run(id, 63), api.OK)
			is(t, "Load", x.Load(id, thread), api.OK)
			is(t, "Preempt", x.Preempt(id, c), api.OK)
			holds(t, x, Act{Id: id, State: Preempted, Space: 16, Core: -1, Thread: thread, Context: c})
			is(t, "Preempt again", x.Preempt(id, anyContext(9)), api.ErrState)
			holds(t, x, Act{Id: id, State: Preempted, Space: 16, Core: -1, Thread: thread, Context: c})
		}
	}
}

// P16.1, P16.2: nothing of one life is left in the next one.
func TestNothingIsLeft(t *testing.T) {
	x := made(t, 1)
	for range 3 {
		makes(t, x, 3, age, api.OK)
		holds(t, x, fresh(age, 3))
		is(t, "Run", x.Run(age, 7), api.OK)
		holds(t, x, Act{Id: age, State: Running, Space: 3, Core: 7})
		is(t, "Block without a thread", x.Block(age), api.ErrState)
		is(t, "Load", x.Load(age, 5), api.OK)
		is(t, "Preempt", x.Preempt(age, anyContext(4)), api.OK)
		is(t, "Cache", x.Cache(age), api.OK)
		holds(t, x, Act{Id: age, State: Cached, Space: 3, Core: -1})
	}
	is(t, "Discard", x.Discard(age), api.OK)
	holds(t, x)
	makes(t, x, 4, 2*age, api.OK)
	holds(t, x, fresh(2*age, 4))
}

// P16.2
func TestDiscard(t *testing.T) {
	for _, state := range []int{Fresh, Cached} {
		x := made(t, 3)
		before, a, behind := one(t, x, 3), in(t, x, state), one(t, x, 4)
		is(t, "Discard", x.Discard(a.Id), api.OK)
		holds(t, x, fresh(before, 3), fresh(behind, 4))
		is(t, "Discard again", x.Discard(a.Id), api.ErrNone)
		gets(t, x, a.Id, Act{}, false)
		holds(t, x, fresh(before, 3), fresh(behind, 4))
		makes(t, x, 3, a.Id+age, api.OK)
	}
}

// oneOfEach tells a Table with one of space 3 in each state, and a Fresh one of space 4
// behind them.
func oneOfEach(t *testing.T) (*Table, []Act) {
	t.Helper()
	x := made(t, 9)
	var want []Act
	// One is Cached when all of its space are made, or Make would give it again.
	for _, state := range []int{Fresh, Blocked, Preempted} {
		want = append(want, in(t, x, state))
	}
	cached := in(t, x, Running)
	running := fresh(one(t, x, 3), 3)
	is(t, "Cache", x.Cache(cached.Id), api.OK)
	is(t, "Run", x.Run(running.Id, 9), api.OK)
	is(t, "Load", x.Load(running.Id, 7), api.OK)
	cached.State, cached.Core, cached.Thread = Cached, -1, 0
	running.State, running.Core, running.Thread = Running, 9, 7
	want = append(want, cached, running, fresh(one(t, x, 4), 4))
	holds(t, x, want...)
	return x, want
}

// P16.2: of a space that has none, one and some, in each state.
func TestDrop(t *testing.T) {
	x, want := oneOfEach(t)
	for _, space := range append(odd(), -3, -1, 0, 1, 2, 5, 16, 17, 1<<32+3) {
		drops(t, x, space, 0)
	}
	holds(t, x, want...)
	drops(t, x, 3, 5)
	holds(t, x, want[5])
	drops(t, x, 3, 0)
	for _, a := range want[:5] {
		gets(t, x, a.Id, Act{}, false)
	}
	drops(t, x, 4, 1)
	holds(t, x)
	drops(t, x, 4, 0)
	// All the room is there again, and no id.
	for i := range 9 {
		id := 2*age + i
		if i >= 6 {
			id = age + i
		}
		makes(t, x, 1+i, id, api.OK)
	}
	makes(t, x, 3, 0, api.ErrFull)
}

// P16.2: one in each state alone.
func TestDropOfOne(t *testing.T) {
	for _, state := range []int{Fresh, Running, Blocked, Preempted, Cached} {
		x := made(t, 2)
		other := fresh(one(t, x, 4), 4)
		a := in(t, x, state)
		drops(t, x, 3, 1)
		holds(t, x, other)
		makes(t, x, 3, a.Id+age, api.OK)
		is(t, "Run on its core", x.Run(a.Id+age, 5), api.OK)
	}
}

// P16.2
func TestDropOfMany(t *testing.T) {
	x := made(t, 4096)
	for i := range 4096 {
		makes(t, x, 1+i%2, age+i, api.OK)
	}
	drops(t, x, 1, 2048)
	counts(t, x, 1, Fresh, 0)
	counts(t, x, 2, Fresh, 2048)
	makes(t, x, 1, 2*age, api.OK)
	makes(t, x, 1, 2*age+2, api.OK)
	drops(t, x, 2, 2048)
	holds(t, x, fresh(2*age, 1), fresh(2*age+2, 1))
	drops(t, x, 1, 2)
	holds(t, x)
}

// P16.2
func TestCount(t *testing.T) {
	x, want := oneOfEach(t)
	for state := 1; state <= 5; state++ {
		counts(t, x, 3, state, 1)
	}
	counts(t, x, 4, Fresh, 1)
	for _, none := range append(odd(), -1, 0, 6, 7, 255, 257, 1<<32+1) {
		counts(t, x, 3, none, 0)
		counts(t, x, none, Fresh, 0)
		counts(t, x, none, none, 0)
	}
	// Some of one state, up and down.
	for i := range 3 {
		is(t, "Discard", x.Discard(want[3].Id+i*age), api.OK)
		makes(t, x, 3, want[3].Id+(i+1)*age, api.OK)
		counts(t, x, 3, Fresh, 2)
		counts(t, x, 3, Cached, 0)
	}
	for i := range 3 {
		one(t, x, 4)
		counts(t, x, 4, Fresh, 2+i)
	}
}

// P16.2: by ids, whatever the order of their places is, and in which they were made.
func TestAllByIds(t *testing.T) {
	x := made(t, 4)
	for i := range 4 {
		makes(t, x, 1+i, age+i, api.OK)
	}
	for _, i := range []int{2, 0} {
		is(t, "Discard", x.Discard(age+i), api.OK)
	}
	makes(t, x, 9, 2*age, api.OK)
	holds(t, x, fresh(age+1, 2), fresh(age+3, 4), fresh(2*age, 9))
	makes(t, x, 8, 2*age+2, api.OK)
	is(t, "Discard", x.Discard(2*age), api.OK)
	makes(t, x, 7, 3*age, api.OK)
	holds(t, x, fresh(age+1, 2), fresh(age+3, 4), fresh(2*age+2, 8), fresh(3*age, 7))
}

// P16.3: an id is not given again, however often one is discarded or dropped, or made
// again as it was Cached.
func TestNoIdTwice(t *testing.T) {
	x := made(t, 2)
	seen := make(map[int]int)
	for turn := range 3000 {
		for range 2 {
			id := one(t, x, 1)
			if seen[id]++; seen[id] > 1 {
				t.Fatalf("Make: %d once more", id)
			}
			is(t, "Run", x.Run(id, id%2), api.OK)
			if turn%3 == 0 {
				is(t, "Cache", x.Cache(id), api.OK)
				makes(t, x, 1, id, api.OK) // the same life of the id goes on
			}
		}
		if turn%3 == 0 {
			for _, a := range x.All() {
				is(t, "Discard", x.Discard(a.Id), api.OK)
			}
		} else {
			drops(t, x, 1, 2)
		}
	}
}

// R3: what All and Get tell is the caller's.
func TestAnswersAreNewMemory(t *testing.T) {
	x, want := oneOfEach(t)
	first, second := x.All(), x.All()
	spoil(first)
	if !slices.Equal(second, want) {
		t.Errorf("the other one: %v, want %v", second, want)
	}
	holds(t, x, want...)
	a, _ := x.Get(want[2].Id)
	a.State, a.Context.Regs[1] = Cached, 77
	holds(t, x, want...)
}

// R3: what was told stays as it was, whatever is done behind it.
func TestAnswersStay(t *testing.T) {
	x, want := oneOfEach(t)
	all := x.All()
	got, _ := x.Get(want[4].Id)
	x.Load(want[4].Id, 55)
	x.Preempt(want[4].Id, anyContext(8))
	x.Cache(want[2].Id)
	x.Discard(want[3].Id)
	x.Drop(4)
	one(t, x, 4)
	if !slices.Equal(all, want) || got != want[4] {
		t.Errorf("behind other calls: %v and %v, want %v", all, got, want)
	}
}

// spoil writes over a list and the room behind it.
func spoil(l []Act) {
	for i := range l[:cap(l)] {
		l[:cap(l)][i] = Act{Id: 9, State: 9, Space: 9, Core: 9, Thread: 9, Context: anyContext(9)}
	}
}

// P16.2: alike are the activations, the room and the ids that come.
func TestCopy(t *testing.T) {
	for _, most := range []int{1, 2, 3, 4096} {
		x := made(t, most)
		other := x.Copy()
		if other == nil || other == x {
			t.Fatalf("Copy: %p of %p", other, x)
		}
		holds(t, other)
		for i := range most {
			makes(t, x, 1, age+i, api.OK)
		}
		holds(t, other)
		full := x.Copy()
		holds(t, full, x.All()...)
		makes(t, full, 1, 0, api.ErrFull)
		for _, one := range []*Table{x, full} {
			is(t, "Discard", one.Discard(age), api.OK)
			makes(t, one.Copy(), 2, 2*age, api.OK)
			makes(t, one, 3, 2*age, api.OK)
			makes(t, one, 1, 0, api.ErrFull)
		}
		drops(t, full, 3, 1)
		drops(t, full, 1, most-1)
		emptied := full.Copy()
		holds(t, emptied)
		makes(t, emptied, 1, 3*age, api.OK)
		for i := range most {
			makes(t, other, 1, age+i, api.OK)
		}
		makes(t, other, 1, 0, api.ErrFull)
	}
}

// P16.2, R3: what is done to one of both is not done to the other.
func TestCopyGoesItsOwnWay(t *testing.T) {
	_, like := oneOfEach(t)
	fresh1, blocked, cached, running := like[0].Id, like[1].Id, like[3].Id, like[4].Id
	for _, c := range []struct {
		name string
		do   func(x *Table) bool
	}{
		{"Make of a new one", func(x *Table) bool { _, err := x.Make(1); return err == api.OK }},
		{"Make of a Cached one", func(x *Table) bool { id, err := x.Make(3); return id == cached && err == api.OK }},
		{"Run", func(x *Table) bool { return x.Run(fresh1, 3) == api.OK }},
		{"Load", func(x *Table) bool { return x.Load(running, 3) == api.OK }},
		{"Block", func(x *Table) bool { return x.Block(running) == api.OK }},
		{"Preempt", func(x *Table) bool { return x.Preempt(running, anyContext(5)) == api.OK }},
		{"Cache of a Running one", func(x *Table) bool { return x.Cache(running) == api.OK }},
		{"Cache of a Blocked one", func(x *Table) bool { return x.Cache(blocked) == api.OK }},
		{"Discard of a Fresh one", func(x *Table) bool { return x.Discard(fresh1) == api.OK }},
		{"Discard of a Cached one", func(x *Table) bool { return x.Discard(cached) == api.OK }},
		{"Drop", func(x *Table) bool { return x.Drop(3) == 5 }},
	} {
		t.Run(c.name, func(t *testing.T) {
			x, want := oneOfEach(t)
			other := x.Copy()
			holds(t, other, want...)
			if !c.do(other) {
				t.Fatalf("%s was refused", c.name)
			}
			holds(t, x, want...)
			behind := other.All()
			if slices.Equal(behind, want) {
				t.Errorf("%s changed nothing", c.name)
			}
			if !c.do(x) {
				t.Errorf("%s was refused then", c.name)
			}
			holds(t, x, behind...)
			holds(t, other, behind...)
			x.Drop(3)
			x.Drop(4)
			holds(t, other, behind...)
		})
	}
}

// P16.2, R5: of a Table that no call made. It changes nothing: behind all calls it still
// is none. ErrMade is named ahead of all others.
func TestOfNoneMade(t *testing.T) {
	var none *Table
	for _, x := range []*Table{nil, {}, New(0), New(-1), New(4097), (&Table{}).Copy(), none.Copy()} {
		for range 2 {
			for _, n := range append(odd(), -1, 0, 1, 2, 5, 16, 17, age, age+1, 2*age) {
				makes(t, x, n, 0, api.ErrMade)
				for _, c := range calls() {
					for _, do := range append(c.wrong, c.do) {
						is(t, c.name, do(x, n), api.ErrMade)
					}
				}
				drops(t, x, n, 0)
				gets(t, x, n, Act{}, false)
				counts(t, x, n, n, 0)
				counts(t, x, 1, n, 0)
				counts(t, x, n, 1, 0)
			}
			holds(t, x)
			if x.Copy() != nil {
				t.Errorf("Copy: not nil")
			}
		}
	}
}
