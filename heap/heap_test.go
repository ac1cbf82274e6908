package heap

import (
	"cmp"
	"math"
	"slices"
	"testing"

	"wherry/api"
)

const (
	lowest  = math.MinInt
	highest = math.MaxInt
)

// made is New's answer, which may not be nil here.
func made(t *testing.T, most int) *Heap {
	t.Helper()
	h := New(most)
	if h == nil {
		t.Fatalf("New(%d): nil", most)
	}
	return h
}

// filled is a Heap of so many ids, into which these things were put in order.
func filled(t *testing.T, most int, things ...thing) *Heap {
	t.Helper()
	h := made(t, most)
	for _, x := range things {
		is(t, "Put", h.Put(x.id, x.key), api.OK)
	}
	holds(t, h, things...)
	return h
}

func is(t *testing.T, what string, got, want api.Errno) {
	t.Helper()
	if got != want {
		t.Errorf("%s: %v, want %v", what, got, want)
	}
}

// tells holds a thing that was told against the one that is wanted.
func tells(t *testing.T, what string, id, key int, ok bool, want thing, wantOK bool) {
	t.Helper()
	if id != want.id || key != want.key || ok != wantOK {
		t.Errorf("%s: %d, %d, %v, want %d, %d, %v", what, id, key, ok, want.id, want.key, wantOK)
	}
}

// pops holds what Pop tells against the thing that is wanted.
func pops(t *testing.T, h *Heap, want thing, wantOK bool) {
	t.Helper()
	id, key, ok := h.Pop()
	tells(t, "Pop", id, key, ok, want, wantOK)
}

// inOrder tells things by keys, those of one key by ids.
func inOrder(things []thing) []thing {
	return slices.SortedFunc(slices.Values(things), func(a, b thing) int {
		return cmp.Or(cmp.Compare(a.key, b.key), cmp.Compare(a.id, b.id))
	})
}

// holds looks that h has just these things, by all that it tells of itself.
func holds(t *testing.T, h *Heap, things ...thing) {
	t.Helper()
	if !h.Sound() {
		t.Errorf("not Sound: %v, %v", h.heap, h.place)
	}
	if got := h.Len(); got != len(things) {
		t.Errorf("Len: %d, want %d", got, len(things))
	}
	var ids []int
	keys := make(map[int]int)
	for _, x := range inOrder(things) {
		ids = append(ids, x.id)
		keys[x.id] = x.key
	}
	if got := h.All(); !slices.Equal(got, ids) {
		t.Errorf("All: %v, want %v", got, ids)
	}
	for id := -1; id <= len(h.place); id++ {
		key, ok := h.Key(id)
		if want, wantOK := keys[id]; key != want || ok != wantOK {
			t.Errorf("Key(%d): %d, %v, want %d, %v", id, key, ok, want, wantOK)
		}
	}
	var first thing
	if len(ids) > 0 {
		first = thing{ids[0], keys[ids[0]]}
	}
	id, key, ok := h.Least()
	tells(t, "Least", id, key, ok, first, len(ids) > 0)
}

// P6.1
func TestNew(t *testing.T) {
	for _, c := range []struct {
		most int
		want bool
	}{
		{1, true}, {2, true}, {4095, true}, {4096, true},
		{0, false}, {-1, false}, {4097, false}, {65536, false}, {lowest, false}, {highest, false},
	} {
		if got := New(c.most) != nil; got != c.want {
			t.Errorf("New(%d): made %v, want %v", c.most, got, c.want)
		}
	}
}

// P6.1: nothing is there, and the ids have ends.
func TestNewIsEmpty(t *testing.T) {
	for _, most := range []int{1, 2, 3, 4095, 4096} {
		h := made(t, most)
		holds(t, h)
		is(t, "Put(most)", h.Put(most, 1), api.ErrRange)
		is(t, "Put(-1)", h.Put(-1, 1), api.ErrRange)
		is(t, "Put(most - 1)", h.Put(most-1, 1), api.OK)
		holds(t, h, thing{most - 1, 1})
	}
}

// P6.1
func TestNewTellsOneOfItsOwn(t *testing.T) {
	a, b := made(t, 2), made(t, 2)
	is(t, "Put", a.Put(1, 7), api.OK)
	holds(t, a, thing{1, 7})
	holds(t, b)
}

// P6.1
func TestPut(t *testing.T) {
	h := made(t, 6)
	var things []thing
	for _, x := range []thing{
		{3, 5}, {5, 9}, {0, 5}, {1, -2}, {4, lowest}, {2, highest},
	} {
		is(t, "Put", h.Put(x.id, x.key), api.OK)
		things = append(things, x)
		holds(t, h, things...)
	}
}

// P6.1: what may not be put, the first error, and that nothing changes.
func TestPutRefused(t *testing.T) {
	things := []thing{{0, 4}, {3, 1}}
	h := filled(t, 4, things...)
	for _, c := range []struct {
		id, key int
		want    api.Errno
	}{
		{-1, 0, api.ErrRange}, {4, 0, api.ErrRange}, {lowest, 0, api.ErrRange}, {highest, 0, api.ErrRange},
		{4096, 4, api.ErrRange}, {-1, lowest, api.ErrRange}, {4, highest, api.ErrRange},
		{0, 4, api.ErrState}, {0, 5, api.ErrState}, {3, 1, api.ErrState}, {3, lowest, api.ErrState},
	} {
		is(t, "Put", h.Put(c.id, c.key), c.want)
		holds(t, h, things...)
	}
	is(t, "Put", h.Put(1, 4), api.OK)
	holds(t, h, thing{0, 4}, thing{3, 1}, thing{1, 4})
}

// P6.1: a key is less, greater, the same, or another one's, of one that stands
// first, in the middle, and last.
func TestChange(t *testing.T) {
	things := []thing{{0, 30}, {1, 10}, {2, 20}, {3, 50}, {4, 40}, {5, 20}}
	keys := []int{lowest, -1, 0, 9, 10, 11, 15, 20, 25, 30, 35, 40, 45, 50, 51, highest}
	for i, x := range things {
		for _, key := range keys {
			h := filled(t, 7, things...)
			is(t, "Change", h.Change(x.id, key), api.OK)
			changed := slices.Clone(things)
			changed[i].key = key
			holds(t, h, changed...)
			is(t, "Change back", h.Change(x.id, x.key), api.OK)
			holds(t, h, things...)
		}
	}
}

// P6.1
func TestChangeOfTheOnlyOne(t *testing.T) {
	h := filled(t, 2, thing{1, 3})
	for _, key := range []int{2, 4, 4, lowest, highest, 0} {
		is(t, "Change", h.Change(1, key), api.OK)
		holds(t, h, thing{1, key})
	}
}

// P6.1: what may not be changed or removed, the first error, and that nothing
// changes.
func TestChangeAndRemoveRefused(t *testing.T) {
	for _, things := range [][]thing{nil, {{1, 4}}, {{1, 4}, {2, 4}}} {
		h := filled(t, 4, things...)
		for _, c := range []struct {
			id   int
			want api.Errno
		}{
			{-1, api.ErrRange}, {4, api.ErrRange}, {5, api.ErrRange}, {lowest, api.ErrRange}, {highest, api.ErrRange},
			{0, api.ErrNone}, {3, api.ErrNone},
		} {
			for _, key := range []int{0, 4, lowest, highest} {
				is(t, "Change", h.Change(c.id, key), c.want)
				holds(t, h, things...)
			}
			is(t, "Remove", h.Remove(c.id), c.want)
			holds(t, h, things...)
		}
	}
}

// P6.1: each one goes, wherever it stands, and may come back.
func TestRemove(t *testing.T) {
	things := []thing{{0, 3}, {1, 1}, {2, 2}, {3, 5}, {4, 4}, {5, 2}}
	for i, x := range things {
		h := filled(t, 6, things...)
		is(t, "Remove", h.Remove(x.id), api.OK)
		left := slices.Delete(slices.Clone(things), i, i+1)
		holds(t, h, left...)
		is(t, "Remove once more", h.Remove(x.id), api.ErrNone)
		is(t, "Change of one that went", h.Change(x.id, 0), api.ErrNone)
		holds(t, h, left...)
		is(t, "Put once more", h.Put(x.id, 0), api.OK)
		holds(t, h, append(left, thing{x.id, 0})...)
	}
}

// P6.1: where the last one of the heap takes the place of one that goes, it may
// belong above those over that place.
func TestRemoveLetsTheLastOneRise(t *testing.T) {
	things := []thing{{0, 1}, {1, 10}, {2, 2}, {3, 11}, {4, 12}, {5, 3}, {6, 4}, {7, 13}, {8, 14}, {9, 15}, {10, 16}, {11, 5}}
	h := filled(t, 12, things...)
	is(t, "Remove", h.Remove(7), api.OK)
	holds(t, h, slices.Delete(things, 7, 8)...)
}

// P6.1: of one, and of none.
func TestFewThings(t *testing.T) {
	h := made(t, 3)
	pops(t, h, thing{}, false)
	holds(t, h)
	is(t, "Put", h.Put(2, lowest), api.OK)
	holds(t, h, thing{2, lowest})
	pops(t, h, thing{2, lowest}, true)
	holds(t, h)
	pops(t, h, thing{}, false)
	is(t, "Put behind that", h.Put(2, highest), api.OK)
	is(t, "Put behind that", h.Put(0, 0), api.OK)
	holds(t, h, thing{2, highest}, thing{0, 0})
	is(t, "Remove", h.Remove(0), api.OK)
	is(t, "Remove", h.Remove(2), api.OK)
	holds(t, h)
}

// P6.1: that there is one is told by the bool alone, also of id 0 with key 0.
func TestZeroIsAThing(t *testing.T) {
	h := filled(t, 1, thing{0, 0})
	pops(t, h, thing{0, 0}, true)
	pops(t, h, thing{0, 0}, false)
	if key, ok := h.Key(0); key != 0 || ok {
		t.Errorf("Key(0): %d, %v, want 0, false", key, ok)
	}
}

// P6.1: Least doesn't take.
func TestLeastStays(t *testing.T) {
	h := filled(t, 4, thing{3, 5}, thing{1, 5})
	for range 3 {
		id, key, ok := h.Least()
		tells(t, "Least", id, key, ok, thing{1, 5}, true)
	}
	holds(t, h, thing{3, 5}, thing{1, 5})
}

// P6.1
func TestKeyOfNone(t *testing.T) {
	h := filled(t, 3, thing{0, 7}, thing{2, -7})
	for _, id := range []int{-1, 1, 3, 4, 4096, lowest, highest} {
		if key, ok := h.Key(id); key != 0 || ok {
			t.Errorf("Key(%d): %d, %v, want 0, false", id, key, ok)
		}
	}
}

// R3: what All tells is the caller's.
func TestAllIsNewMemory(t *testing.T) {
	things := []thing{{0, 2}, {1, 1}, {2, 3}}
	h := filled(t, 3, things...)
	first, second := h.All(), h.All()
	for i := range first {
		first[i] = 99
	}
	if want := []int{1, 0, 2}; !slices.Equal(second, want) {
		t.Errorf("the other one: %v, want %v", second, want)
	}
	holds(t, h, things...)
}

// P6.1: also at the ends of int, where it is just still an int.
func TestLower(t *testing.T) {
	for _, c := range []struct {
		keys []int
		by   int
		want []int
	}{
		{[]int{3, 1, 2}, 0, []int{3, 1, 2}},
		{[]int{3, 1, 2}, 1, []int{2, 0, 1}},
		{[]int{3, 1, 2}, -4, []int{7, 5, 6}},
		{[]int{3, 3, -3}, 3, []int{0, 0, -6}},
		{[]int{lowest, 0, highest}, 0, []int{lowest, 0, highest}},
		{[]int{lowest + 1, 0, highest}, 1, []int{lowest, -1, highest - 1}},
		{[]int{lowest, 0, highest - 1}, -1, []int{lowest + 1, 1, highest}},
		{[]int{-1}, highest, []int{lowest}},
		{[]int{highest, -1, 0}, highest, []int{0, lowest, -highest}},
		{[]int{0}, -highest, []int{highest}},
		{[]int{-1, lowest}, lowest, []int{highest, 0}},
		{nil, 0, nil}, {nil, 1, nil}, {nil, lowest, nil}, {nil, highest, nil},
	} {
		h := filled(t, 3, numbered(c.keys)...)
		is(t, "Lower", h.Lower(c.by), api.OK)
		holds(t, h, numbered(c.want)...)
	}
}

// numbered tells things with these keys, from id 0 on.
func numbered(keys []int) []thing {
	var things []thing
	for id, key := range keys {
		things = append(things, thing{id, key})
	}
	return things
}

// P6.1: some key is too small or too great, the first, one in the middle or the
// last, and none changes.
func TestLowerRefused(t *testing.T) {
	for _, c := range []struct {
		keys []int
		by   int
	}{
		{[]int{lowest, 0, 1}, 1}, {[]int{0, lowest, 1}, 1}, {[]int{0, 1, lowest}, 1},
		{[]int{highest, 0, 1}, -1}, {[]int{0, highest, 1}, -1}, {[]int{0, 1, highest}, -1},
		{[]int{lowest, 0, highest}, 1}, {[]int{lowest, 0, highest}, -1},
		{[]int{lowest + 1, 5}, 2}, {[]int{highest - 1, 5}, -2},
		{[]int{-2}, highest}, {[]int{-1, 0, -2}, highest},
		{[]int{0}, lowest}, {[]int{-1, 0}, lowest}, {[]int{1}, -highest},
		{[]int{lowest}, highest}, {[]int{highest}, lowest},
	} {
		h := filled(t, 3, numbered(c.keys)...)
		is(t, "Lower", h.Lower(c.by), api.ErrRange)
		holds(t, h, numbered(c.keys)...)
	}
}

// P6.1: calls work on behind it.
func TestCallsBehindLower(t *testing.T) {
	h := filled(t, 4, thing{0, 10}, thing{1, 20}, thing{2, 30})
	is(t, "Lower", h.Lower(15), api.OK)
	is(t, "Put", h.Put(3, 0), api.OK)
	is(t, "Change", h.Change(2, -6), api.OK)
	holds(t, h, thing{2, -6}, thing{0, -5}, thing{3, 0}, thing{1, 5})
	pops(t, h, thing{2, -6}, true)
	is(t, "Remove", h.Remove(3), api.OK)
	holds(t, h, thing{0, -5}, thing{1, 5})
}

// P6.2: Sound sees what may not be.
func TestSoundTellsFalse(t *testing.T) {
	for _, c := range []struct {
		name  string
		heap  []thing
		place []int
		want  bool
	}{
		{"empty", nil, []int{-1, -1}, true},
		{"right", []thing{{1, 2}, {0, 3}, {2, 2}}, []int{1, 0, 2}, true},
		{"one key, ids that fall", []thing{{1, 2}, {0, 2}}, []int{1, 0}, false},
		{"a key above the one over it, left", []thing{{0, 5}, {1, 4}, {2, 6}}, []int{0, 1, 2}, false},
		{"a key above the one over it, right", []thing{{0, 5}, {1, 6}, {2, 4}}, []int{0, 1, 2}, false},
		{"a key above the one over it, below", []thing{{0, 1}, {1, 3}, {2, 4}, {3, 2}}, []int{0, 1, 2, 3}, false},
		{"places changed", []thing{{0, 1}, {1, 2}}, []int{1, 0}, false},
		{"two at one place", []thing{{0, 1}, {1, 2}}, []int{0, 0}, false},
		{"one that is not found", []thing{{0, 1}, {1, 2}}, []int{0, -1}, false},
		{"one that went, and is found", []thing{{0, 1}}, []int{0, 1}, false},
		{"one that went, and is found first", nil, []int{0}, false},
		{"no place", []thing{{0, 1}, {1, 2}}, []int{0, -2}, false},
		{"one id twice", []thing{{0, 1}, {0, 1}}, []int{0, -1}, false},
		{"an id that is none", []thing{{7, 1}}, []int{-1}, false},
	} {
		h := &Heap{heap: c.heap, place: c.place}
		if got := h.Sound(); got != c.want {
			t.Errorf("%s: %v, want %v", c.name, got, c.want)
		}
	}
}

// P6.3: all orders of putting six things, some of one key.
func TestPoppedByKeys(t *testing.T) {
	things := []thing{{0, 2}, {1, lowest}, {2, 1}, {3, 2}, {4, highest}, {5, 1}}
	var orders func(done, left []thing)
	orders = func(done, left []thing) {
		if len(left) == 0 {
			h := filled(t, 6, done...)
			for _, x := range []thing{{1, lowest}, {2, 1}, {5, 1}, {0, 2}, {3, 2}, {4, highest}} {
				pops(t, h, x, true)
				if !h.Sound() {
					t.Errorf("put in order %v, behind %v: not Sound", done, x)
				}
			}
			pops(t, h, thing{}, false)
		}
		for i := range left {
			orders(append(slices.Clone(done), left[i]), slices.Delete(slices.Clone(left), i, i+1))
		}
	}
	orders(nil, things)
}

// P6.1, P6.3: as many as may be, with all keys the same, rising, falling, and
// several of each.
func TestFullHeap(t *testing.T) {
	for name, key := range map[string]func(id int) int{
		"same":    func(id int) int { return 7 },
		"rising":  func(id int) int { return id },
		"falling": func(id int) int { return -id },
		"mixed":   func(id int) int { return id * 389 % 64 },
	} {
		t.Run(name, func(t *testing.T) {
			var things []thing
			for id := range 4096 {
				things = append(things, thing{id, key(id)})
			}
			h := filled(t, 4096, things...)
			is(t, "Put(4096)", h.Put(4096, 0), api.ErrRange)
			is(t, "Put(4095)", h.Put(4095, 0), api.ErrState)
			for _, x := range inOrder(things) {
				pops(t, h, x, true)
			}
			holds(t, h)
		})
	}
}

// The chapter's example.
func TestExample(t *testing.T) {
	h := filled(t, 4, thing{3, 5}, thing{1, 5}, thing{2, 9})
	pops(t, h, thing{1, 5}, true)
	is(t, "Change", h.Change(2, 1), api.OK)
	pops(t, h, thing{2, 1}, true)
	holds(t, h, thing{3, 5})
}

// P6.1
func TestCopy(t *testing.T) {
	for _, things := range [][]thing{
		nil, {{0, 0}}, {{3, lowest}}, {{2, 5}, {0, 5}}, {{3, 1}, {2, 2}, {1, highest}, {0, 4}},
	} {
		h := filled(t, 4, things...)
		other := h.Copy()
		if other == nil {
			t.Fatalf("Copy of %v: nil", things)
		}
		holds(t, other, things...)
		holds(t, h, things...)
		is(t, "Put behind its ids", other.Put(4, 0), api.ErrRange)
	}
}

// P6.1, R3: what is done to one of both is not done to the other.
func TestCopyGoesItsOwnWay(t *testing.T) {
	things := []thing{{3, 6}, {1, 7}, {2, 8}}
	for _, c := range []struct {
		name string
		from []thing
		do   func(h *Heap)
		left []thing
	}{
		{"Put", things, func(h *Heap) { h.Put(0, 1) }, []thing{{0, 1}, {3, 6}, {1, 7}, {2, 8}}},
		{"Put into an empty one", nil, func(h *Heap) { h.Put(0, 1) }, []thing{{0, 1}}},
		{"Change", things, func(h *Heap) { h.Change(2, 1) }, []thing{{3, 6}, {1, 7}, {2, 1}}},
		{"Remove", things, func(h *Heap) { h.Remove(1) }, []thing{{3, 6}, {2, 8}}},
		{"Pop", things, func(h *Heap) { h.Pop() }, []thing{{1, 7}, {2, 8}}},
		{"Lower", things, func(h *Heap) { h.Lower(5) }, []thing{{3, 1}, {1, 2}, {2, 3}}},
	} {
		t.Run(c.name, func(t *testing.T) {
			h := filled(t, 4, c.from...)
			other := h.Copy()
			c.do(other)
			holds(t, other, c.left...)
			holds(t, h, c.from...)
			third := other.Copy()
			c.do(h)
			holds(t, h, c.left...)
			holds(t, third, c.left...)
		})
	}
}

// P6.1: both put behind a thing that went, where a shared room would be seen.
func TestCopyHasItsOwnRoom(t *testing.T) {
	h := filled(t, 4, thing{0, 1}, thing{1, 2})
	is(t, "Remove", h.Remove(1), api.OK)
	other := h.Copy()
	is(t, "Put", h.Put(2, 3), api.OK)
	is(t, "Put", other.Put(3, 4), api.OK)
	holds(t, h, thing{0, 1}, thing{2, 3})
	holds(t, other, thing{0, 1}, thing{3, 4})
}

// P6.1, P6.2, R5: of a Heap that no call made.
func TestOfNoneMade(t *testing.T) {
	for _, h := range []*Heap{nil, {}, New(0), New(4097), (&Heap{}).Copy()} {
		for _, x := range []int{0, 1, -1, 4095, 4096, lowest, highest} {
			for _, key := range []int{0, 1, -1, lowest, highest} {
				is(t, "Put", h.Put(x, key), api.ErrMade)
				is(t, "Change", h.Change(x, key), api.ErrMade)
			}
			is(t, "Remove", h.Remove(x), api.ErrMade)
			is(t, "Lower", h.Lower(x), api.ErrMade)
			if key, ok := h.Key(x); key != 0 || ok {
				t.Errorf("Key(%d): %d, %v, want 0, false", x, key, ok)
			}
		}
		id, key, ok := h.Least()
		tells(t, "Least", id, key, ok, thing{}, false)
		pops(t, h, thing{}, false)
		if got := h.Len(); got != 0 {
			t.Errorf("Len: %d, want 0", got)
		}
		if got := h.All(); len(got) != 0 {
			t.Errorf("All: %v, want nothing", got)
		}
		if h.Sound() {
			t.Errorf("Sound: true, want false")
		}
		if h.Copy() != nil {
			t.Errorf("Copy: not nil")
		}
	}
}
