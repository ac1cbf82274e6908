package device

import (
	"math"
	"slices"
	"testing"

	"wherry/api"
)

const (
	lowest  = math.MinInt
	highest = math.MaxInt
)

// made is New's answer, which may not be nil here.
func made(t *testing.T, most int) *Device {
	t.Helper()
	d := New(most)
	if d == nil {
		t.Fatalf("New(%d): nil", most)
	}
	return d
}

// of is a Device of so many places at which requests of these spaces stand, with
// Ids from 1 on.
func of(t *testing.T, most int, spaces ...int) *Device {
	t.Helper()
	d := made(t, most)
	for i, space := range spaces {
		starts(t, d, asked(i, space), i+1, api.OK)
	}
	return d
}

// asked is what the i-th request of a space is here: each is another one.
func asked(i, space int) Request {
	return Request{Space: space, Thread: 10 * i, Kind: 1 + i%2, Size: 3 * i}
}

// stood is asked, as it stands where it was given that Id.
func stood(id, i, space int) Request {
	r := asked(i, space)
	r.Id = id
	return r
}

// starts holds Start's answer against the Id and the error that are wanted.
func starts(t *testing.T, d *Device, r Request, id int, err api.Errno) {
	t.Helper()
	if gotID, gotErr := d.Start(r); gotID != id || gotErr != err {
		t.Errorf("Start(%+v): %d, %v, want %d, %v", r, gotID, gotErr, id, err)
	}
}

// finishes holds Finish's answer against what is wanted.
func finishes(t *testing.T, d *Device, k int, r Request, result int, err api.Errno) {
	t.Helper()
	if got, value, e := d.Finish(k); got != r || value != result || e != err {
		t.Errorf("Finish(%d): %+v, %d, %v, want %+v, %d, %v", k, got, value, e, r, result, err)
	}
}

// cancels holds Cancel's answer against what is wanted.
func cancels(t *testing.T, d *Device, space, want int) {
	t.Helper()
	if got := d.Cancel(space); got != want {
		t.Errorf("Cancel(%d): %d, want %d", space, got, want)
	}
}

// holds looks that just these requests stand and so many were finished, by all
// that d tells of itself.
func holds(t *testing.T, d *Device, done int, want ...Request) {
	t.Helper()
	if got := d.All(); !slices.Equal(got, want) {
		t.Errorf("All: %+v, want %+v", got, want)
	}
	if got := d.Len(); got != len(want) {
		t.Errorf("Len: %d, want %d", got, len(want))
	}
	if got := d.Done(); got != done {
		t.Errorf("Done: %d, want %d", got, done)
	}
}

// P11.1
func TestNew(t *testing.T) {
	for _, most := range []int{lowest, lowest + 1, -4096, -1, 0, 4097, 4098, 65536, highest - 1, highest} {
		if New(most) != nil {
			t.Errorf("New(%d): not nil", most)
		}
	}
	for _, most := range []int{1, 2, 64, 4095, 4096} {
		holds(t, made(t, most), 0)
	}
}

// P11.1
func TestNewTellsOneOfItsOwn(t *testing.T) {
	a, b := made(t, 2), made(t, 2)
	starts(t, a, asked(0, 1), 1, api.OK)
	starts(t, a, asked(1, 1), 2, api.OK)
	holds(t, a, 0, stood(1, 0, 1), stood(2, 1, 1))
	holds(t, b, 0)
	starts(t, b, asked(2, 3), 1, api.OK)
	holds(t, b, 0, stood(1, 2, 3))
}

// The chapter's example.
func TestExample(t *testing.T) {
	first, second := Request{Space: 1, Thread: 5, Kind: 1, Size: 4}, Request{Space: 2, Thread: 6, Kind: 2, Size: 9}
	d := made(t, 2)
	starts(t, d, first, 1, api.OK)
	starts(t, d, second, 2, api.OK)
	first.Id, second.Id = 1, 2
	finishes(t, d, 1, second, 9, api.OK)
	holds(t, d, 1, first)
	finishes(t, d, 1, first, 31+4*7, api.OK)
	holds(t, d, 2)
}

// P11.1: what may be asked stands as it was asked.
func TestStart(t *testing.T) {
	for _, r := range []Request{
		{Kind: 1}, {Kind: 2},
		{Space: 1, Kind: 1}, {Space: 16, Kind: 1}, {Space: highest, Kind: 2},
		{Thread: 1, Kind: 1}, {Thread: 65536, Kind: 2}, {Thread: highest, Kind: 1},
		{Kind: 1, Size: 1}, {Kind: 1, Size: 999}, {Kind: 1, Size: 1000},
		{Kind: 2, Size: 1}, {Kind: 2, Size: 999}, {Kind: 2, Size: 1000},
		{Space: highest, Thread: highest, Kind: 2, Size: 1000},
	} {
		d := made(t, 3)
		starts(t, d, asked(1, 7), 1, api.OK)
		starts(t, d, r, 2, api.OK)
		r.Id = 2
		holds(t, d, 0, stood(1, 1, 7), r)
	}
}

// P11.1: which Id is asked for doesn't matter, not even one that may not be.
func TestStartGivesTheId(t *testing.T) {
	d := made(t, 9)
	var want []Request
	for i, id := range []int{0, 1, 2, 1, -1, 77, lowest, highest} {
		starts(t, d, stood(id, i, 1), i+1, api.OK)
		want = append(want, stood(i+1, i, 1))
	}
	holds(t, d, 0, want...)
}

// P11.1: what may not be asked, and that nothing changes.
func TestStartRefused(t *testing.T) {
	d := of(t, 4, 2, 0)
	for _, r := range []Request{
		{Space: -1, Kind: 1}, {Space: lowest, Kind: 1},
		{Thread: -1, Kind: 1}, {Thread: lowest, Kind: 2},
		{}, {Kind: 3}, {Kind: -1}, {Kind: 4}, {Kind: lowest}, {Kind: highest},
		{Kind: 1, Size: -1}, {Kind: 2, Size: -1}, {Kind: 1, Size: 1001}, {Kind: 2, Size: 1001},
		{Kind: 1, Size: lowest}, {Kind: 2, Size: highest},
		{Space: -1, Thread: -1, Kind: 0, Size: -1},
	} {
		starts(t, d, r, 0, api.ErrArg)
		holds(t, d, 0, stood(1, 0, 2), stood(2, 1, 0))
	}
	starts(t, d, asked(5, 5), 3, api.OK)
	holds(t, d, 0, stood(1, 0, 2), stood(2, 1, 0), stood(3, 5, 5))
}

// P11.1: how many may stand, and that one more may behind a Finish or a Cancel.
func TestStartOfAFullOne(t *testing.T) {
	for _, most := range []int{1, 2, 3, 64, 4095, 4096} {
		d := made(t, most)
		var want []Request
		for i := range most {
			starts(t, d, Request{Space: i, Kind: 2}, i+1, api.OK)
			want = append(want, Request{Id: i + 1, Space: i, Kind: 2})
		}
		for range 2 {
			starts(t, d, asked(1, 1), 0, api.ErrFull)
			holds(t, d, 0, want...)
		}
		finishes(t, d, 0, want[0], 0, api.OK)
		starts(t, d, asked(7, 1), most+1, api.OK)
		want = append(want[1:], stood(most+1, 7, 1))
		starts(t, d, asked(1, 1), 0, api.ErrFull)
		holds(t, d, 1, want...)
		gone := want[0].Space
		want = slices.DeleteFunc(want, func(r Request) bool { return r.Space == gone })
		cancels(t, d, gone, most-len(want))
		starts(t, d, asked(8, 1), most+2, api.OK)
		holds(t, d, 1, append(want, stood(most+2, 8, 1))...)
	}
}

// P11.1: ErrArg is named ahead of ErrFull.
func TestStartErrorsInOrder(t *testing.T) {
	d := of(t, 1, 3)
	for _, r := range []Request{
		{Space: -1, Kind: 1}, {Thread: -1, Kind: 1}, {}, {Kind: 3}, {Kind: 1, Size: -1}, {Kind: 2, Size: 1001},
	} {
		starts(t, d, r, 0, api.ErrArg)
	}
	starts(t, d, Request{Kind: 1}, 0, api.ErrFull)
	holds(t, d, 0, stood(1, 0, 3))
}

// P11.1: each Id is one more, whatever went meanwhile; a Start that is refused
// takes none.
func TestIdsGoOn(t *testing.T) {
	d := made(t, 2)
	starts(t, d, asked(0, 1), 1, api.OK)
	starts(t, d, asked(0, 2), 2, api.OK)
	starts(t, d, asked(0, 2), 0, api.ErrFull)
	starts(t, d, Request{}, 0, api.ErrArg)
	finishes(t, d, 1, stood(2, 0, 2), 62, api.OK)
	starts(t, d, asked(0, 3), 3, api.OK)
	cancels(t, d, 3, 1)
	starts(t, d, Request{Kind: 3}, 0, api.ErrArg)
	starts(t, d, asked(0, 4), 4, api.OK)
	finishes(t, d, 0, stood(1, 0, 1), 31, api.OK)
	finishes(t, d, 0, stood(4, 0, 4), 124, api.OK)
	finishes(t, d, 0, Request{}, 0, api.ErrNone)
	cancels(t, d, 4, 0)
	starts(t, d, asked(0, 5), 5, api.OK)
	holds(t, d, 3, stood(5, 0, 5))
}

// P11.1: the place of k among so many.
func TestFinish(t *testing.T) {
	for _, c := range []struct{ n, k, place int }{
		{1, lowest, 0}, {1, -1, 0}, {1, 0, 0}, {1, 1, 0}, {1, 2, 0}, {1, highest, 0},
		{2, -1, 0}, {2, 0, 0}, {2, 1, 1}, {2, 2, 0}, {2, 3, 1}, {2, highest, 1},
		{3, lowest, 0}, {3, -3, 0}, {3, -2, 0}, {3, -1, 0},
		{3, 0, 0}, {3, 1, 1}, {3, 2, 2}, {3, 3, 0}, {3, 4, 1}, {3, 5, 2}, {3, 6, 0}, {3, 3001, 1},
		// The highest is 7 times 73 times others, and leaves 2 by 5.
		{7, highest, 0}, {7, highest - 1, 6}, {5, highest, 2}, {5, highest - 3, 4},
	} {
		d := of(t, 8, make([]int, c.n)...)
		want := d.All()
		r := want[c.place]
		finishes(t, d, c.k, r, worth(r), api.OK)
		holds(t, d, 1, slices.Delete(want, c.place, c.place+1)...)
	}
}

// worth is a request's result, by the chapter's words.
func worth(r Request) int {
	if r.Kind == 1 {
		return (r.Id*31 + r.Size*7) % 1000
	}
	return r.Size
}

// P11.1: where nothing stands, from the beginning on or since all went.
func TestFinishRefused(t *testing.T) {
	ks := []int{lowest, -1, 0, 1, 2, 4096, highest}
	d := made(t, 2)
	for _, k := range ks {
		finishes(t, d, k, Request{}, 0, api.ErrNone)
		holds(t, d, 0)
	}
	starts(t, d, asked(1, 1), 1, api.OK)
	finishes(t, d, 5, stood(1, 1, 1), 3, api.OK)
	for _, k := range ks {
		finishes(t, d, k, Request{}, 0, api.ErrNone)
		holds(t, d, 1)
	}
	starts(t, d, asked(1, 1), 2, api.OK)
	cancels(t, d, 1, 1)
	for _, k := range ks {
		finishes(t, d, k, Request{}, 0, api.ErrNone)
		holds(t, d, 1)
	}
	starts(t, d, asked(1, 1), 3, api.OK)
}

// P11.1: results of both Kinds, of Ids that are so great.
func TestResults(t *testing.T) {
	for _, c := range []struct{ id, kind, size, want int }{
		{1, 1, 0, 31}, {1, 1, 1, 38}, {1, 1, 1000, 31}, {1, 1, 999, 24}, {2, 1, 143, 63},
		{32, 1, 0, 992}, {33, 1, 0, 23}, {32, 1, 1, 999}, {32, 1, 2, 6},
		{999, 1, 0, 969}, {1000, 1, 0, 0}, {1000, 1, 1000, 0}, {1001, 1, 3, 52}, {1001, 1, 1000, 31},
		{4097, 1, 500, 507},
		{1, 2, 0, 0}, {1, 2, 1, 1}, {1, 2, 999, 999}, {1, 2, 1000, 1000},
		{1000, 2, 0, 0}, {4097, 2, 1000, 1000}, {4097, 2, 7, 7},
	} {
		d := made(t, 1)
		for id := 1; id < c.id; id++ {
			starts(t, d, asked(1, 1), id, api.OK)
			cancels(t, d, 1, 1)
		}
		r := Request{Space: 3, Thread: 4, Kind: c.kind, Size: c.size}
		starts(t, d, r, c.id, api.OK)
		r.Id = c.id
		finishes(t, d, 0, r, c.want, api.OK)
	}
}

// R6: no product wraps, also where an Id is greater than a test can come to.
func TestResultsOfTheGreatest(t *testing.T) {
	for _, c := range []struct{ id, size, want int }{
		{math.MaxInt32, 0, 647 * 31 % 1000}, {math.MaxInt32, 1000, 647 * 31 % 1000}, {math.MaxInt32, 1, (647*31 + 7) % 1000},
		{highest, 0, 807 * 31 % 1000}, {highest, 1000, 807 * 31 % 1000}, {highest, 1, (807*31 + 7) % 1000},
	} {
		d := made(t, 1)
		d.lastID = c.id - 1
		starts(t, d, Request{Kind: 1, Size: c.size}, c.id, api.OK)
		finishes(t, d, 0, Request{Id: c.id, Kind: 1, Size: c.size}, c.want, api.OK)
	}
}

// P11.1: a space that has none, one, some and all of the requests, wherever they
// stand; the others stay in their order.
func TestCancel(t *testing.T) {
	for _, c := range []struct {
		spaces []int
		space  int
	}{
		{nil, 0}, {nil, 1}, {nil, -1},
		{[]int{1}, 1}, {[]int{1}, 2}, {[]int{0}, 0}, {[]int{0}, 1},
		{[]int{1, 2, 3}, 1}, {[]int{1, 2, 3}, 2}, {[]int{1, 2, 3}, 3}, {[]int{1, 2, 3}, 4}, {[]int{1, 2, 3}, 0},
		{[]int{1, 1, 2, 2, 1}, 1}, {[]int{1, 1, 2, 2, 1}, 2}, {[]int{2, 1, 2, 0, 1, 1}, 1}, {[]int{2, 1, 2, 0, 1, 1}, 0},
		{[]int{3, 3, 3, 3}, 3}, {[]int{0, 0, 0}, 0}, {[]int{3, 3, 3, 3}, -3}, {[]int{0, 0, 0}, -1},
		{[]int{1, 0, 1}, -1}, {[]int{1, 0, 1}, lowest}, {[]int{1, 0, 1}, highest}, {[]int{highest, 1}, highest},
	} {
		d := of(t, 6, c.spaces...)
		var left []Request
		for i, space := range c.spaces {
			if space != c.space {
				left = append(left, stood(i+1, i, space))
			}
		}
		cancels(t, d, c.space, len(c.spaces)-len(left))
		holds(t, d, 0, left...)
		cancels(t, d, c.space, 0)
		holds(t, d, 0, left...)
	}
}

// P11.1: it is the space that counts, not the thread or another number.
func TestCancelGoesBySpaces(t *testing.T) {
	d := made(t, 4)
	starts(t, d, Request{Space: 5, Thread: 1, Kind: 1, Size: 9}, 1, api.OK)
	starts(t, d, Request{Space: 1, Thread: 5, Kind: 2, Size: 5}, 2, api.OK)
	starts(t, d, Request{Space: 2, Thread: 2, Kind: 2, Size: 2}, 3, api.OK)
	starts(t, d, Request{Space: 1, Thread: 2, Kind: 1, Size: 1}, 4, api.OK)
	cancels(t, d, 1, 2)
	holds(t, d, 0, Request{1, 5, 1, 1, 9}, Request{3, 2, 2, 2, 2})
}

// P11.1: those that were cancelled don't count, nor does a Finish of nothing.
func TestDone(t *testing.T) {
	d := of(t, 5, 1, 2, 1, 2, 1)
	cancels(t, d, 2, 2)
	holds(t, d, 0, stood(1, 0, 1), stood(3, 2, 1), stood(5, 4, 1))
	finishes(t, d, 1, stood(3, 2, 1), 135, api.OK)
	holds(t, d, 1, stood(1, 0, 1), stood(5, 4, 1))
	cancels(t, d, 9, 0)
	finishes(t, d, 0, stood(1, 0, 1), 31, api.OK)
	holds(t, d, 2, stood(5, 4, 1))
	cancels(t, d, 1, 1)
	holds(t, d, 2)
	finishes(t, d, 0, Request{}, 0, api.ErrNone)
	holds(t, d, 2)
}

// R3: what is told is the caller's, and so is the room behind it.
func TestAnswersAreNewMemory(t *testing.T) {
	want := []Request{stood(1, 0, 1), stood(2, 1, 2), stood(3, 2, 1)}
	d := of(t, 5, 1, 2, 1)
	first, second := d.All(), d.All()
	spoil(first)
	if !slices.Equal(second, want) {
		t.Errorf("the other one: %+v, want %+v", second, want)
	}
	holds(t, d, 0, want...)
	starts(t, d, asked(3, 4), 4, api.OK)
	spoil(second)
	holds(t, d, 0, append(want, stood(4, 3, 4))...)
}

// R3: what was told stays as it was, whatever is done behind it.
func TestAnswersStay(t *testing.T) {
	d := of(t, 4, 1, 2, 1)
	all := d.All()
	d.Finish(0)
	d.Cancel(1)
	d.Start(asked(7, 7))
	if want := []Request{stood(1, 0, 1), stood(2, 1, 2), stood(3, 2, 1)}; !slices.Equal(all, want) {
		t.Errorf("behind other calls: %+v, want %+v", all, want)
	}
}

// spoil writes over a list and the room behind it.
func spoil(l []Request) {
	for i := range l[:cap(l)] {
		l[:cap(l)][i] = Request{9, 9, 9, 9, 9}
	}
}

// P11.1: alike are the requests, the room, how many were finished, and which Id is
// next.
func TestCopy(t *testing.T) {
	d := of(t, 3, 1, 2, 1)
	cancels(t, d, 2, 1)
	finishes(t, d, 0, stood(1, 0, 1), 31, api.OK)
	other := d.Copy()
	if other == nil {
		t.Fatal("Copy: nil")
	}
	for _, one := range []*Device{other, d} {
		holds(t, one, 1, stood(3, 2, 1))
		starts(t, one, asked(0, 6), 4, api.OK)
		starts(t, one, asked(1, 6), 5, api.OK)
		starts(t, one, asked(2, 6), 0, api.ErrFull)
		holds(t, one, 1, stood(3, 2, 1), stood(4, 0, 6), stood(5, 1, 6))
	}
}

// P11.1: of one without requests, of a full one, and of one that has had some.
func TestCopyOfMany(t *testing.T) {
	for _, most := range []int{1, 2, 4096} {
		d := made(t, most)
		holds(t, d.Copy(), 0)
		for i := range most {
			starts(t, d, asked(i%9, i%5), i+1, api.OK)
		}
		holds(t, d.Copy(), 0, d.All()...)
		starts(t, d.Copy(), asked(0, 0), 0, api.ErrFull)
		for range most {
			d.Finish(1)
		}
		holds(t, d.Copy(), most)
		starts(t, d.Copy(), asked(0, 0), most+1, api.OK)
	}
}

// P11.1, R3: what is done to one of both is not done to the other.
func TestCopyGoesItsOwnWay(t *testing.T) {
	from := []Request{stood(1, 0, 1), stood(2, 1, 2), stood(3, 2, 1)}
	for _, c := range []struct {
		name string
		do   func(d *Device)
		done int
		left []Request
	}{
		{"Start", func(d *Device) { d.Start(asked(5, 5)) }, 0, append(slices.Clone(from), stood(4, 5, 5))},
		{"Finish of the first", func(d *Device) { d.Finish(0) }, 1, from[1:]},
		{"Finish of the last", func(d *Device) { d.Finish(2) }, 1, from[:2]},
		{"Cancel", func(d *Device) { d.Cancel(1) }, 0, from[1:2]},
		{"Cancel and Start", func(d *Device) { d.Cancel(2); d.Start(asked(5, 5)) }, 0, []Request{from[0], from[2], stood(4, 5, 5)}},
		{"Finish of all", func(d *Device) { d.Finish(0); d.Finish(0); d.Finish(0) }, 3, nil},
	} {
		t.Run(c.name, func(t *testing.T) {
			d := of(t, 4, 1, 2, 1)
			other := d.Copy()
			c.do(other)
			holds(t, other, c.done, c.left...)
			holds(t, d, 0, from...)
			third := other.Copy()
			c.do(d)
			holds(t, d, c.done, c.left...)
			third.Cancel(1)
			third.Start(asked(8, 8))
			third.Finish(0)
			holds(t, d, c.done, c.left...)
			holds(t, other, c.done, c.left...)
		})
	}
}

// P11.1, R5: of a Device that no call made. It changes nothing: behind all calls
// it still is none.
func TestOfNoneMade(t *testing.T) {
	for _, d := range []*Device{nil, {}, New(0), New(-1), New(4097), (&Device{}).Copy()} {
		for range 2 {
			// ErrMade is named ahead of ErrArg and ErrNone.
			for _, r := range []Request{{}, asked(0, 1), {Space: -1, Kind: 1}, {Kind: 3}, {Kind: 2, Size: 1001}} {
				starts(t, d, r, 0, api.ErrMade)
			}
			for _, x := range []int{lowest, -1, 0, 1, 4096, highest} {
				finishes(t, d, x, Request{}, 0, api.ErrMade)
				cancels(t, d, x, 0)
			}
			holds(t, d, 0)
			if d.Copy() != nil {
				t.Errorf("Copy: not nil")
			}
		}
	}
}
