package links

import (
	"math"
	"slices"
	"testing"

	"wherry/api"
)

const (
	lowest  = math.MinInt
	highest = math.MaxInt
)

// made is New's answer, which may not be nil here.
func made(t *testing.T, things, lists int) *Links {
	t.Helper()
	l := New(things, lists)
	if l == nil {
		t.Fatalf("New(%d, %d): nil", things, lists)
	}
	return l
}

// filled is Links of so many things, with these lists.
func filled(t *testing.T, things int, lists ...[]int) *Links {
	t.Helper()
	l := made(t, things, len(lists))
	for list, members := range lists {
		for _, thing := range members {
			is(t, "Push", l.Push(list, thing), api.OK)
		}
	}
	holds(t, l, lists...)
	return l
}

func is(t *testing.T, what string, got, want api.Errno) {
	t.Helper()
	if got != want {
		t.Errorf("%s: %v, want %v", what, got, want)
	}
}

// tells holds a number and an error against those that are wanted.
func tells(t *testing.T, what string, n int, err api.Errno, want int, wantErr api.Errno) {
	t.Helper()
	if n != want || err != wantErr {
		t.Errorf("%s: %d, %v, want %d, %v", what, n, err, want, wantErr)
	}
}

// members gathers what All tells.
func members(l *Links, list int) []int {
	var all []int
	for thing := range l.All(list) {
		all = append(all, thing)
	}
	return all
}

// holds looks that l has just these lists, by all that it tells of itself.
func holds(t *testing.T, l *Links, lists ...[]int) {
	t.Helper()
	where := make([]int, len(l.where))
	for thing := range where {
		where[thing] = -1
	}
	for list, want := range lists {
		if got := members(l, list); !slices.Equal(got, want) {
			t.Errorf("All(%d): %v, want %v", list, got, want)
		}
		if got := l.Len(list); got != len(want) {
			t.Errorf("Len(%d): %d, want %d", list, got, len(want))
		}
		for _, thing := range want {
			where[thing] = list
		}
	}
	for thing, want := range where {
		if got := l.Where(thing); got != want {
			t.Errorf("Where(%d): %d, want %d", thing, got, want)
		}
	}
	if got := len(l.count); got != len(lists) {
		t.Errorf("%d lists, want %d", got, len(lists))
	}
}

// P5.1
func TestNew(t *testing.T) {
	wrong := []int{0, -1, 4097, 65536, lowest, highest}
	right := []int{1, 2, 4095, 4096}
	for _, a := range slices.Concat(wrong, right) {
		for _, b := range slices.Concat(wrong, right) {
			want := slices.Contains(right, a) && slices.Contains(right, b)
			if got := New(a, b) != nil; got != want {
				t.Errorf("New(%d, %d): made %v, want %v", a, b, got, want)
			}
		}
	}
}

// P5.1: the things are in no list, the lists are empty, and both have ends.
func TestNewIsEmpty(t *testing.T) {
	for _, c := range []struct{ things, lists int }{{1, 1}, {1, 4096}, {4096, 1}, {4096, 4096}, {3, 5}} {
		l := made(t, c.things, c.lists)
		holds(t, l, make([][]int, c.lists)...)
		is(t, "Push of the last ones", l.Push(c.lists-1, c.things-1), api.OK)
		is(t, "Push behind the things", l.Push(0, c.things), api.ErrRange)
		is(t, "Push behind the lists", l.Push(c.lists, 0), api.ErrRange)
		if got := l.Where(c.things - 1); got != c.lists-1 {
			t.Errorf("Where of the last one: %d, want %d", got, c.lists-1)
		}
	}
}

// P5.1
func TestNewTellsOneOfItsOwn(t *testing.T) {
	a, b := made(t, 2, 2), made(t, 2, 2)
	is(t, "Push", a.Push(0, 1), api.OK)
	holds(t, a, []int{1}, nil)
	holds(t, b, nil, nil)
}

// P5.1: all things may stand in one list, in any order.
func TestFullLists(t *testing.T) {
	l := made(t, 4096, 2)
	var want []int
	for thing := range 4096 {
		is(t, "Front", l.Front(1, thing), api.OK)
		want = append(want, 4095-thing)
	}
	holds(t, l, nil, want)
	n, err := l.Move(1, 0)
	tells(t, "Move", n, err, 4096, api.OK)
	holds(t, l, want, nil)
}

// P5.1
func TestPush(t *testing.T) {
	l := made(t, 4, 3)
	is(t, "Push(0, 0)", l.Push(0, 0), api.OK)
	holds(t, l, []int{0}, nil, nil)
	is(t, "Push(0, 3)", l.Push(0, 3), api.OK)
	holds(t, l, []int{0, 3}, nil, nil)
	is(t, "Push(2, 2)", l.Push(2, 2), api.OK)
	holds(t, l, []int{0, 3}, nil, []int{2})
	is(t, "Push(0, 1)", l.Push(0, 1), api.OK)
	holds(t, l, []int{0, 3, 1}, nil, []int{2})
}

// P5.1
func TestFront(t *testing.T) {
	l := made(t, 4, 3)
	is(t, "Front(0, 0)", l.Front(0, 0), api.OK)
	holds(t, l, []int{0}, nil, nil)
	is(t, "Front(0, 3)", l.Front(0, 3), api.OK)
	holds(t, l, []int{3, 0}, nil, nil)
	is(t, "Front(2, 2)", l.Front(2, 2), api.OK)
	holds(t, l, []int{3, 0}, nil, []int{2})
	is(t, "Front(0, 1)", l.Front(0, 1), api.OK)
	holds(t, l, []int{1, 3, 0}, nil, []int{2})
}

// P5.1
func TestPushAndFrontMixed(t *testing.T) {
	l := made(t, 5, 1)
	is(t, "Front", l.Front(0, 2), api.OK)
	is(t, "Push", l.Push(0, 4), api.OK)
	is(t, "Front", l.Front(0, 0), api.OK)
	is(t, "Push", l.Push(0, 1), api.OK)
	is(t, "Front", l.Front(0, 3), api.OK)
	holds(t, l, []int{3, 0, 2, 4, 1})
}

// P5.1, P5.2: what may not be put, the first error, and that nothing changes.
func TestPutRefused(t *testing.T) {
	lists := [][]int{{1, 0}, {2}, nil}
	for _, c := range []struct {
		list, thing int
		want        api.Errno
	}{
		// No such list or thing.
		{-1, 3, api.ErrRange}, {3, 3, api.ErrRange}, {lowest, 3, api.ErrRange}, {highest, 3, api.ErrRange},
		{0, -1, api.ErrRange}, {0, 4, api.ErrRange}, {0, lowest, api.ErrRange}, {0, highest, api.ErrRange},
		{2, -1, api.ErrRange}, {2, 4, api.ErrRange}, {2, 5, api.ErrRange}, {2, 6, api.ErrRange},
		{-1, -1, api.ErrRange}, {3, 4, api.ErrRange}, {-1, 4, api.ErrRange}, {3, -1, api.ErrRange},
		// ErrRange is named ahead of ErrState.
		{-1, 0, api.ErrRange}, {3, 0, api.ErrRange}, {-1, 2, api.ErrRange}, {3, 2, api.ErrRange},
		// It stands in this list, or in another one.
		{0, 0, api.ErrState}, {0, 1, api.ErrState}, {1, 2, api.ErrState},
		{1, 0, api.ErrState}, {1, 1, api.ErrState}, {0, 2, api.ErrState},
		{2, 0, api.ErrState}, {2, 1, api.ErrState}, {2, 2, api.ErrState},
	} {
		l := filled(t, 4, lists...)
		if got := l.Push(c.list, c.thing); got != c.want {
			t.Errorf("Push(%d, %d): %v, want %v", c.list, c.thing, got, c.want)
		}
		holds(t, l, lists...)
		if got := l.Front(c.list, c.thing); got != c.want {
			t.Errorf("Front(%d, %d): %v, want %v", c.list, c.thing, got, c.want)
		}
		holds(t, l, lists...)
	}
}

// P5.1
func TestRemove(t *testing.T) {
	for _, c := range []struct {
		name  string
		thing int
		want  [][]int
	}{
		{"the first", 4, [][]int{{0, 2}, {1}, nil}},
		{"one between", 0, [][]int{{4, 2}, {1}, nil}},
		{"the last", 2, [][]int{{4, 0}, {1}, nil}},
		{"the only one", 1, [][]int{{4, 0, 2}, nil, nil}},
	} {
		l := filled(t, 5, []int{4, 0, 2}, []int{1}, nil)
		is(t, c.name, l.Remove(c.thing), api.OK)
		holds(t, l, c.want...)
		is(t, c.name+" once more", l.Remove(c.thing), api.ErrNone)
		holds(t, l, c.want...)

		// It may stand in a list again, at both ends, and go from there.
		is(t, c.name+" again", l.Push(0, c.thing), api.OK)
		holds(t, l, append(slices.Clone(c.want[0]), c.thing), c.want[1], nil)
		is(t, c.name+" from there", l.Remove(c.thing), api.OK)
		is(t, c.name+" ahead", l.Front(0, c.thing), api.OK)
		holds(t, l, append([]int{c.thing}, c.want[0]...), c.want[1], nil)
	}
}

// P5.1
func TestRemoveRefused(t *testing.T) {
	lists := [][]int{{4, 0, 2}, {1}, nil}
	l := filled(t, 6, lists...)
	for _, c := range []struct {
		thing int
		want  api.Errno
	}{
		{-1, api.ErrRange}, {6, api.ErrRange}, {7, api.ErrRange}, {9, api.ErrRange},
		{lowest, api.ErrRange}, {highest, api.ErrRange},
		{3, api.ErrNone}, {5, api.ErrNone},
	} {
		if got := l.Remove(c.thing); got != c.want {
			t.Errorf("Remove(%d): %v, want %v", c.thing, got, c.want)
		}
		holds(t, l, lists...)
	}
}

// P5.1
func TestPop(t *testing.T) {
	l := filled(t, 5, []int{4, 0, 2}, []int{1}, nil)
	for _, c := range []struct {
		list, want int
		err        api.Errno
		left       [][]int
	}{
		{0, 4, api.OK, [][]int{{0, 2}, {1}, nil}},
		{2, 0, api.ErrNone, [][]int{{0, 2}, {1}, nil}},
		{1, 1, api.OK, [][]int{{0, 2}, nil, nil}},
		{1, 0, api.ErrNone, [][]int{{0, 2}, nil, nil}},
		{-1, 0, api.ErrRange, [][]int{{0, 2}, nil, nil}},
		{3, 0, api.ErrRange, [][]int{{0, 2}, nil, nil}},
		{lowest, 0, api.ErrRange, [][]int{{0, 2}, nil, nil}},
		{highest, 0, api.ErrRange, [][]int{{0, 2}, nil, nil}},
		{0, 0, api.OK, [][]int{{2}, nil, nil}},
		{0, 2, api.OK, [][]int{nil, nil, nil}},
		{0, 0, api.ErrNone, [][]int{nil, nil, nil}},
	} {
		got, err := l.Pop(c.list)
		tells(t, "Pop", got, err, c.want, c.err)
		holds(t, l, c.left...)
	}
	is(t, "Push behind Pop", l.Push(2, 0), api.OK)
	holds(t, l, nil, nil, []int{0})
}

// P5.1
func TestMove(t *testing.T) {
	for _, c := range []struct {
		name           string
		lists          [][]int
		from, to, want int
		left           [][]int
	}{
		{"an empty one to an empty one", [][]int{nil, nil, {1}}, 0, 1, 0, [][]int{nil, nil, {1}}},
		{"an empty one", [][]int{{1, 0}, nil, {2}}, 1, 0, 0, [][]int{{1, 0}, nil, {2}}},
		{"to an empty one", [][]int{{3, 1, 2}, nil, {0}}, 0, 1, 3, [][]int{nil, {3, 1, 2}, {0}}},
		{"one thing to an empty one", [][]int{{3}, nil, nil}, 0, 2, 1, [][]int{nil, nil, {3}}},
		{"behind others", [][]int{{3, 1}, {2, 0}, {4}}, 0, 1, 2, [][]int{nil, {2, 0, 3, 1}, {4}}},
		{"behind others, back", [][]int{{3, 1}, {2, 0}, {4}}, 1, 0, 2, [][]int{{3, 1, 2, 0}, nil, {4}}},
		{"from the last one", [][]int{{3, 1}, {2, 0}, {4}}, 2, 0, 1, [][]int{{3, 1, 4}, {2, 0}, nil}},
		{"to the last one", [][]int{{3, 1}, {2, 0}, {4}}, 0, 2, 2, [][]int{nil, {2, 0}, {4, 3, 1}}},
	} {
		l := filled(t, 5, c.lists...)
		got, err := l.Move(c.from, c.to)
		tells(t, c.name, got, err, c.want, api.OK)
		holds(t, l, c.left...)

		got, err = l.Move(c.from, c.to)
		tells(t, c.name+" once more", got, err, 0, api.OK)
		holds(t, l, c.left...)

		// Both lists go on as any other one does.
		for range c.left[c.to] {
			first, err := l.Pop(c.to)
			tells(t, c.name+": Pop", first, err, c.left[c.to][0], api.OK)
			is(t, c.name+": Push", l.Push(c.from, first), api.OK)
			c.left[c.from] = append(c.left[c.from], first)
			c.left[c.to] = c.left[c.to][1:]
			holds(t, l, c.left...)
		}
	}
}

// P5.1
func TestMoveRefused(t *testing.T) {
	lists := [][]int{{1, 0}, {2}, nil}
	l := filled(t, 4, lists...)
	for _, c := range []struct {
		from, to int
		want     api.Errno
	}{
		{-1, 0, api.ErrRange}, {3, 0, api.ErrRange}, {lowest, 0, api.ErrRange}, {highest, 0, api.ErrRange},
		{0, -1, api.ErrRange}, {0, 3, api.ErrRange}, {0, lowest, api.ErrRange}, {0, highest, api.ErrRange},
		{-1, 3, api.ErrRange}, {3, -1, api.ErrRange},
		// ErrRange is named ahead of ErrArg.
		{-1, -1, api.ErrRange}, {3, 3, api.ErrRange}, {lowest, lowest, api.ErrRange}, {highest, highest, api.ErrRange},
		{0, 0, api.ErrArg}, {1, 1, api.ErrArg}, {2, 2, api.ErrArg},
	} {
		n, err := l.Move(c.from, c.to)
		if n != 0 || err != c.want {
			t.Errorf("Move(%d, %d): %d, %v, want 0, %v", c.from, c.to, n, err, c.want)
		}
		holds(t, l, lists...)
	}
}

// P5.1: the chapter's first example.
func TestExample(t *testing.T) {
	l := made(t, 3, 2)
	is(t, "Push(0, 2)", l.Push(0, 2), api.OK)
	is(t, "Push(0, 1)", l.Push(0, 1), api.OK)
	n, err := l.Move(0, 1)
	tells(t, "Move(0, 1)", n, err, 2, api.OK)
	holds(t, l, nil, []int{2, 1})
}

// P5.1
func TestWhereAndLen(t *testing.T) {
	l := filled(t, 4, []int{1, 0}, []int{2}, nil)
	for _, c := range []struct{ thing, want int }{
		{0, 0}, {1, 0}, {2, 1}, {3, -1},
		{-1, -1}, {4, -1}, {5, -1}, {lowest, -1}, {highest, -1},
	} {
		if got := l.Where(c.thing); got != c.want {
			t.Errorf("Where(%d): %d, want %d", c.thing, got, c.want)
		}
	}
	for _, c := range []struct{ list, want int }{
		{0, 2}, {1, 1}, {2, 0},
		{-1, 0}, {3, 0}, {lowest, 0}, {highest, 0},
	} {
		if got := l.Len(c.list); got != c.want {
			t.Errorf("Len(%d): %d, want %d", c.list, got, c.want)
		}
	}
}

// P5.1
func TestAllOfNone(t *testing.T) {
	l := filled(t, 4, []int{1, 0}, nil)
	for _, list := range []int{1, -1, 2, 3, lowest, highest} {
		if got := members(l, list); len(got) != 0 {
			t.Errorf("All(%d): %v, want nothing", list, got)
		}
	}
}

// P5.1
func TestAllIsLeftEarlyAndNested(t *testing.T) {
	l := filled(t, 4, []int{3, 0, 2}, []int{1})
	all := l.All(0)
	for most := 1; most <= 3; most++ {
		var got []int
		for thing := range all {
			got = append(got, thing)
			if len(got) == most {
				break
			}
		}
		if want := []int{3, 0, 2}[:most]; !slices.Equal(got, want) {
			t.Errorf("left behind %d: %v, want %v", most, got, want)
		}
	}
	var pairs []int
	for a := range all {
		for b := range all {
			pairs = append(pairs, 10*a+b)
		}
	}
	if want := []int{33, 30, 32, 3, 0, 2, 23, 20, 22}; !slices.Equal(pairs, want) {
		t.Errorf("nested: %v, want %v", pairs, want)
	}
	holds(t, l, []int{3, 0, 2}, []int{1})
}

// P5.1: one iterator tells the list as it is each time.
func TestAllBetweenChanges(t *testing.T) {
	l := made(t, 4, 2)
	all := l.All(0)
	now := func(want ...int) {
		t.Helper()
		var got []int
		for thing := range all {
			got = append(got, thing)
		}
		if !slices.Equal(got, want) {
			t.Errorf("All(0): %v, want %v", got, want)
		}
	}
	now()
	is(t, "Push", l.Push(0, 2), api.OK)
	now(2)
	is(t, "Front", l.Front(0, 1), api.OK)
	now(1, 2)
	is(t, "Remove", l.Remove(2), api.OK)
	now(1)
	is(t, "Push", l.Push(1, 3), api.OK)
	_, err := l.Move(1, 0)
	is(t, "Move", err, api.OK)
	now(1, 3)
	_, err = l.Move(0, 1)
	is(t, "Move", err, api.OK)
	now()
}

// P1: what is done meanwhile is told the next time, and the loop ends.
func TestAllWhileItChanges(t *testing.T) {
	l := filled(t, 3, []int{0, 1, 2}, nil)
	var got []int
	for thing := range l.All(0) {
		got = append(got, thing)
		is(t, "Remove", l.Remove(thing), api.OK)
		is(t, "Push", l.Push(0, thing), api.OK)
	}
	if want := []int{0, 1, 2}; !slices.Equal(got, want) {
		t.Errorf("each to the end: %v, want %v", got, want)
	}
	got = nil
	for thing := range l.All(0) {
		got = append(got, thing)
		if _, err := l.Move(0, 1); err != api.OK {
			t.Errorf("Move: %v", err)
		}
	}
	if want := []int{0, 1, 2}; !slices.Equal(got, want) {
		t.Errorf("all to another one: %v, want %v", got, want)
	}
	holds(t, l, nil, []int{0, 1, 2})
}

// P5.1
func TestCopy(t *testing.T) {
	for _, lists := range [][][]int{
		{nil}, {nil, nil}, {{0}, nil}, {{3, 1}, {2, 0}}, {nil, {3, 0, 2, 1}},
	} {
		l := filled(t, 4, lists...)
		other := l.Copy()
		if other == nil {
			t.Fatalf("Copy of %v: nil", lists)
		}
		holds(t, other, lists...)
		holds(t, l, lists...)
		is(t, "Push behind its things", other.Push(0, 4), api.ErrRange)
		is(t, "Push behind its lists", other.Push(len(lists), 0), api.ErrRange)
	}
}

// P5.1, R3: what is done to one of both is not done to the other.
func TestCopyGoesItsOwnWay(t *testing.T) {
	lists := [][]int{{3, 1}, {2}, nil}
	for _, c := range []struct {
		name string
		do   func(l *Links)
		left [][]int
	}{
		{"Push", func(l *Links) { l.Push(0, 0) }, [][]int{{3, 1, 0}, {2}, nil}},
		{"Front", func(l *Links) { l.Front(2, 0) }, [][]int{{3, 1}, {2}, {0}}},
		{"Remove", func(l *Links) { l.Remove(1) }, [][]int{{3}, {2}, nil}},
		{"Pop", func(l *Links) { l.Pop(1) }, [][]int{{3, 1}, nil, nil}},
		{"Move", func(l *Links) { l.Move(0, 1) }, [][]int{nil, {2, 3, 1}, nil}},
	} {
		t.Run(c.name, func(t *testing.T) {
			l := filled(t, 4, lists...)
			other := l.Copy()
			c.do(other)
			holds(t, other, c.left...)
			holds(t, l, lists...)
			third := other.Copy()
			c.do(l)
			holds(t, l, c.left...)
			holds(t, third, c.left...)
		})
	}
}

// P5.1, R5: of Links that no call made.
func TestOfNoneMade(t *testing.T) {
	for _, l := range []*Links{nil, {}, New(0, 1)} {
		for _, x := range []int{0, 1, -1, 4095, 4096, lowest, highest} {
			for _, y := range []int{0, 1, -1, lowest, highest} {
				is(t, "Push", l.Push(x, y), api.ErrMade)
				is(t, "Front", l.Front(x, y), api.ErrMade)
				n, err := l.Move(x, y)
				tells(t, "Move", n, err, 0, api.ErrMade)
			}
			is(t, "Remove", l.Remove(x), api.ErrMade)
			n, err := l.Pop(x)
			tells(t, "Pop", n, err, 0, api.ErrMade)
			if got := l.Where(x); got != -1 {
				t.Errorf("Where(%d): %d, want -1", x, got)
			}
			if got := l.Len(x); got != 0 {
				t.Errorf("Len(%d): %d, want 0", x, got)
			}
			if got := members(l, x); len(got) != 0 {
				t.Errorf("All(%d): %v, want nothing", x, got)
			}
			if l.Copy() != nil {
				t.Errorf("Copy: not nil")
			}
		}
	}
}
