package life

import (
	"math/rand"
	"slices"
	"testing"

	"wherry/api"
)

// The tests of this file hold a Table against a plain list of activations, by drawn
// calls, the same ones each time. A call that panicked there would fail them too (P1).

// model knows a Table as its activations by ids, and how often each place was taken.
type model struct {
	ages []int
	acts []Act
}

func newModel(most int) *model {
	return &model{ages: make([]int, most)}
}

func (m *model) copied() *model {
	return &model{slices.Clone(m.ages), slices.Clone(m.acts)}
}

func (m *model) at(id int) int {
	return slices.IndexFunc(m.acts, func(a Act) bool { return a.Id == id })
}

// make goes over the ids from the least on, and then over the places.
func (m *model) make(space int) (int, api.Errno) {
	if space < 1 || space > 16 {
		return 0, api.ErrArg
	}
	for i, a := range m.acts {
		if a.State == 5 && a.Space == space {
			m.acts[i].State = 1
			return a.Id, api.OK
		}
	}
	for place := range m.ages {
		taken := slices.ContainsFunc(m.acts, func(a Act) bool { return a.Id%65536 == place })
		if !taken {
			m.ages[place]++
			id := m.ages[place]*65536 + place
			m.acts = append(m.acts, Act{Id: id, State: 1, Space: space, Core: -1})
			slices.SortFunc(m.acts, func(a, b Act) int { return a.Id - b.Id })
			return id, api.OK
		}
	}
	return 0, api.ErrFull
}

func (m *model) run(id, core int) api.Errno {
	i := m.at(id)
	switch {
	case i < 0:
		return api.ErrNone
	case m.acts[i].State != 1:
		return api.ErrState
	case core < 0 || core > 63:
		return api.ErrArg
	}
	for _, a := range m.acts {
		if a.State == 2 && a.Core == core {
			return api.ErrFull
		}
	}
	m.acts[i].State, m.acts[i].Core = 2, core
	return api.OK
}

func (m *model) load(id, thread int) api.Errno {
	i := m.at(id)
	switch {
	case i < 0:
		return api.ErrNone
	case m.acts[i].State != 2:
		return api.ErrState
	case thread < 0:
		return api.ErrArg
	}
	m.acts[i].Thread = thread
	return api.OK
}

func (m *model) block(id int) api.Errno {
	i := m.at(id)
	switch {
	case i < 0:
		return api.ErrNone
	case m.acts[i].State != 2 || m.acts[i].Thread == 0:
		return api.ErrState
	}
	m.acts[i].State, m.acts[i].Core = 3, -1
	return api.OK
}

func (m *model) preempt(id int, c api.Context) api.Errno {
	i := m.at(id)
	switch {
	case i < 0:
		return api.ErrNone
	case m.acts[i].State != 2:
		return api.ErrState
	}
	m.acts[i].State, m.acts[i].Core, m.acts[i].Context = 4, -1, c
	return api.OK
}

func (m *model) cache(id int) api.Errno {
	i := m.at(id)
	switch {
	case i < 0:
		return api.ErrNone
	case m.acts[i].State == 1 || m.acts[i].State == 5:
		return api.ErrState
	}
	a := &m.acts[i]
	a.State, a.Core, a.Thread, a.Context = 5, -1, 0, api.Context{}
	return api.OK
}

func (m *model) discard(id int) api.Errno {
	i := m.at(id)
	switch {
	case i < 0:
		return api.ErrNone
	case m.acts[i].State != 1 && m.acts[i].State != 5:
		return api.ErrState
	}
	m.acts = slices.Concat(m.acts[:i], m.acts[i+1:])
	return api.OK
}

func (m *model) drop(space int) int {
	var left []Act
	for _, a := range m.acts {
		if a.Space != space {
			left = append(left, a)
		}
	}
	n := len(m.acts) - len(left)
	m.acts = left
	return n
}

// drawnID is mostly one that is there, sometimes one that was or may be, or none.
func drawnID(r *rand.Rand, m *model) int {
	if len(m.acts) > 0 && r.Intn(10) > 0 {
		return m.acts[r.Intn(len(m.acts))].Id
	}
	if r.Intn(8) == 0 {
		return []int{lowest, -1, 0, 1, highest}[r.Intn(5)]
	}
	place := r.Intn(len(m.ages) + 1)
	return r.Intn(m.ages[min(place, len(m.ages)-1)]+2)*65536 + place
}

// drawnNumber is mostly from low to high, and sometimes beyond.
func drawnNumber(r *rand.Rand, low, high int) int {
	if r.Intn(15) == 0 {
		return []int{lowest, low - 1, high + 1, highest}[r.Intn(4)]
	}
	return low + r.Intn(high-low+1)
}

// drawnCore is one of few, mostly, so that two often want the same one.
func drawnCore(r *rand.Rand) int {
	if r.Intn(4) > 0 {
		return r.Intn(4)
	}
	return drawnNumber(r, 0, 63)
}

// drawnThread is often none.
func drawnThread(r *rand.Rand) int {
	if r.Intn(4) == 0 {
		return 0
	}
	return drawnNumber(r, 0, 1<<40)
}

func drawnContext(r *rand.Rand) api.Context {
	c := api.Context{Program: r.Int() - r.Int(), PC: r.Intn(70), Depth: -r.Intn(9)}
	for i := range c.Regs {
		c.Regs[i] = int(r.Uint64())
	}
	return c
}

// does makes one drawn call to both, and tells its name and what the Table answered.
func does(t *testing.T, r *rand.Rand, x *Table, m *model) (string, api.Errno) {
	t.Helper()
	id := drawnID(r, m)
	var name string
	var got, want api.Errno
	switch r.Intn(16) {
	case 0, 1, 2:
		space := drawnNumber(r, 1, 4)
		id, err := x.Make(space)
		wantID, wantErr := m.make(space)
		if id != wantID || err != wantErr {
			t.Errorf("Make(%d): %d, %v, want %d, %v", space, id, err, wantID, wantErr)
		}
		name, got, want = "Make", err, wantErr
	case 3, 4, 5:
		core := drawnCore(r)
		name, got, want = "Run", x.Run(id, core), m.run(id, core)
	case 6, 7, 8:
		thread := drawnThread(r)
		name, got, want = "Load", x.Load(id, thread), m.load(id, thread)
	case 9, 10:
		name, got, want = "Block", x.Block(id), m.block(id)
	case 11, 12:
		c := drawnContext(r)
		name, got, want = "Preempt", x.Preempt(id, c), m.preempt(id, c)
	case 13, 14:
		name, got, want = "Cache", x.Cache(id), m.cache(id)
	default:
		if r.Intn(8) == 0 {
			space := drawnNumber(r, 1, 5)
			drops(t, x, space, m.drop(space))
			return "Drop", api.OK
		}
		name, got, want = "Discard", x.Discard(id), m.discard(id)
	}
	is(t, name, got, want)
	return name, got
}

// right looks at what is always so: no two run on one core, each has a state, and what
// its state allows.
func right(t *testing.T, x *Table) {
	t.Helper()
	cores := make(map[int]int)
	last := 0
	for _, a := range x.All() {
		if a.Id <= last {
			t.Errorf("%d comes behind %d", a.Id, last)
		}
		last = a.Id
		if a.State < Fresh || a.State > Cached || a.Space < 1 || a.Space > 16 {
			t.Errorf("what is this? %v", a)
		}
		if (a.State == Running) != (a.Core >= 0) || a.Core < -1 || a.Core > 63 {
			t.Errorf("on a core, or on none: %v", a)
		}
		if a.State == Running {
			if cores[a.Core]++; cores[a.Core] > 1 {
				t.Errorf("another one is on the core of %v", a)
			}
		}
		if a.State != Preempted && (a.Context != api.Context{}) {
			t.Errorf("it has a Context: %v", a)
		}
		if (a.State == Fresh || a.State == Cached) && a.Thread != 0 || a.State == Blocked && a.Thread == 0 {
			t.Errorf("with a thread, or without: %v", a)
		}
	}
}

// P16.1, P16.2, P16.3, P1
func TestDrawnCalls(t *testing.T) {
	for seed := range int64(40) {
		r := rand.New(rand.NewSource(seed))
		most := 1 + r.Intn(12)
		x, m := made(t, most), newModel(most)
		for range 1000 {
			does(t, r, x, m)
			holds(t, x, m.acts...)
			right(t, x)
			id := drawnID(r, m)
			if i := m.at(id); i >= 0 {
				gets(t, x, id, m.acts[i], true)
			} else {
				gets(t, x, id, Act{}, false)
			}
			if r.Intn(30) == 0 {
				// The copy goes another way, and must leave x alone.
				other, its := x.Copy(), m.copied()
				for range 8 {
					does(t, r, other, its)
				}
				holds(t, other, its.acts...)
				holds(t, x, m.acts...)
			}
			if t.Failed() {
				t.Fatalf("seed %d", seed)
			}
		}
	}
}

// The drawn calls meet each answer of each call, or they would say little.
func TestDrawnCallsMeetAll(t *testing.T) {
	met := make(map[string]int)
	for seed := range int64(20) {
		r := rand.New(rand.NewSource(seed))
		x, m := made(t, 10), newModel(10)
		for range 1000 {
			name, err := does(t, r, x, m)
			met[name+" "+err.Error()]++
		}
	}
	for _, what := range []string{
		"Make ok", "Make arg", "Make full",
		"Run ok", "Run none", "Run state", "Run arg", "Run full",
		"Load ok", "Load none", "Load state", "Load arg",
		"Block ok", "Block none", "Block state",
		"Preempt ok", "Preempt none", "Preempt state",
		"Cache ok", "Cache none", "Cache state",
		"Discard ok", "Discard none", "Discard state",
		"Drop ok",
	} {
		if met[what] < 5 {
			t.Errorf("%s: met %d times", what, met[what])
		}
		delete(met, what)
	}
	if len(met) > 0 {
		t.Errorf("and these: %v", met)
	}
}

// P16.2: copies of copies, each with a list of its own.
func TestDrawnCopies(t *testing.T) {
	r := rand.New(rand.NewSource(16))
	tables := make([]*Table, 4)
	models := make([]*model, 4)
	for i := range tables {
		tables[i], models[i] = made(t, 2+i), newModel(2+i)
	}
	for range 5000 {
		i, j := r.Intn(4), r.Intn(4)
		switch r.Intn(30) {
		case 0:
			tables[i], models[i] = tables[j].Copy(), models[j].copied()
		case 1:
			// New ones, now and then, or the copies would all have as much room.
			most := 1 + r.Intn(8)
			tables[i], models[i] = made(t, most), newModel(most)
		}
		does(t, r, tables[i], models[i])
		for k, x := range tables {
			holds(t, x, models[k].acts...)
		}
		if t.Failed() {
			t.FailNow()
		}
	}
}

// P16.3: an id that is no more never comes again.
func TestDrawnIdsComeOnce(t *testing.T) {
	for seed := range int64(20) {
		r := rand.New(rand.NewSource(seed))
		x, m := made(t, 4), newModel(4)
		there, gone := make(map[int]int), make(map[int]int)
		for range 6000 {
			does(t, r, x, m)
			now := make(map[int]int)
			for _, a := range x.All() {
				now[a.Id] = a.Space
				if gone[a.Id] > 0 {
					t.Fatalf("seed %d: %d is there again", seed, a.Id)
				}
			}
			for id, space := range there {
				if now[id] == 0 {
					gone[id] = space
				} else if now[id] != space {
					t.Fatalf("seed %d: %d went from space %d to %d", seed, id, space, now[id])
				}
			}
			there = now
		}
		if len(gone) < 100 {
			t.Errorf("seed %d: only %d are no more", seed, len(gone))
		}
	}
}

// P16.1, P16.2: of one with much room, all cores of which are run on.
func TestGreatest(t *testing.T) {
	const most = 4096
	r := rand.New(rand.NewSource(17))
	x, m := made(t, most), newModel(most)
	for i := range most {
		space := 1 + i%16
		makes(t, x, space, 65536+i, api.OK)
		m.ages[i] = 1
		m.acts = append(m.acts, fresh(65536+i, space))
	}
	for range 300 {
		core, id := r.Intn(64), drawnID(r, m)
		is(t, "Run", x.Run(id, core), m.run(id, core))
	}
	for range 1000 {
		does(t, r, x, m)
	}
	holds(t, x, m.acts...)
	right(t, x)
}
