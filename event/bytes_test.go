package event

import (
	"bytes"
	"slices"
	"testing"

	"wherry/api"
)

// events are the chapter's Bytes of events, written out.
func events() []struct {
	e    api.Event
	want []byte
} {
	far40 := []byte{128, 128, 128, 128, 128, 32} // 2^40
	return []struct {
		e    api.Event
		want []byte
	}{
		{api.Event{Kind: Unblocked, Act: 3, Thread: 7, Value: 5}, []byte{4, 3, 7, 5}},
		{api.Event{Kind: Unblocked, Act: 3, Thread: 7}, []byte{4, 3, 7, 0}},
		{api.Event{Kind: Unblocked, Act: 300, Thread: 128, Value: 1000}, []byte{4, 172, 2, 128, 1, 232, 7}},
		{api.Event{Kind: Unblocked, Act: far, Thread: far, Value: 127}, slices.Concat([]byte{4}, far40, far40, []byte{127})},
		{api.Event{Kind: Grant, Act: 1}, []byte{1, 1}},
		{api.Event{Kind: Grant, Act: far}, slices.Concat([]byte{1}, far40)},
		{api.Event{Kind: Blocked, Act: 5, Thread: 6}, []byte{3, 5, 6}},
		{api.Event{Kind: Blocked, Act: 127, Thread: 65536}, []byte{3, 127, 128, 128, 4}},
		{api.Event{Kind: Demand}, []byte{5, 0, 0}},
		{api.Event{Kind: Demand, Value: 64}, []byte{5, 0, 64}},
		{api.Event{Kind: Demand, Value: 1000}, []byte{5, 0, 232, 7}},
		{api.Event{Kind: Idle, Act: 9}, []byte{6, 9}},
		{api.Event{Kind: Recycle, Act: 128}, []byte{7, 128, 1}},
		{api.Event{Kind: Preempted, Act: 1, Thread: 2}, []byte{2, 1, 2, 0, 0, 0, 0, 0, 0, 0, 0, 0, 0, 0}},
		{full()[1], slices.Concat(
			[]byte{2, 3, 4, 1, 2, 3, 0, 2, 1, 128, 1, 129, 1},
			bytes.Repeat([]byte{255}, 9), []byte{1, 254}, bytes.Repeat([]byte{255}, 8), []byte{1, 216, 4})},
		{
			api.Event{Kind: Preempted, Act: far, Thread: 1, Context: api.Context{Program: 7, PC: 64, Depth: 8, Regs: [8]int{7: -1}}},
			slices.Concat([]byte{2}, far40, []byte{1, 7, 64, 8, 0, 0, 0, 0, 0, 0, 0, 1}),
		},
	}
}

// unlike are events that are not Good, each by one thing alone.
func unlike() []api.Event {
	var l []api.Event
	for _, e := range full() {
		for _, change := range []func(e *api.Event){
			func(e *api.Event) { e.Kind = 0 },
			func(e *api.Event) { e.Kind = 8 },
			func(e *api.Event) { e.Kind = -e.Kind },
			func(e *api.Event) { e.Kind += 256 },
			func(e *api.Event) { e.Act = -1 },
			func(e *api.Event) { e.Act = far + 1 },
			func(e *api.Event) { e.Act = lowest },
			func(e *api.Event) { e.Act = highest },
			func(e *api.Event) { e.Thread = -1 },
			func(e *api.Event) { e.Thread = far + 1 },
			func(e *api.Event) { e.Value = -1 },
			func(e *api.Event) { e.Value = 1001 },
			func(e *api.Event) { e.Value = 256 * 256 * 256 },
			func(e *api.Event) { e.Context.Program = -1 },
			func(e *api.Event) { e.Context.Program = 8 },
			func(e *api.Event) { e.Context.PC = -1 },
			func(e *api.Event) { e.Context.PC = 65 },
			func(e *api.Event) { e.Context.Depth = -1 },
			func(e *api.Event) { e.Context.Depth = 9 },
		} {
			other := e
			change(&other)
			l = append(l, other)
		}
	}
	return append(l, api.Event{}, api.Event{Kind: Grant}, api.Event{Kind: Demand, Act: 1},
		api.Event{Kind: Grant, Act: 1, Thread: 1}, api.Event{Kind: Idle, Act: 1, Value: 1},
		api.Event{Kind: Blocked, Act: 1}, api.Event{Kind: Unblocked, Act: 1},
		api.Event{Kind: Blocked, Act: 1, Thread: 1, Context: api.Context{Regs: [8]int{7: 1}}})
}

// parsed holds Parse's answer against what is wanted.
func parsed(t *testing.T, b []byte, e api.Event, size int, err api.Errno) {
	t.Helper()
	if got, n, no := Parse(b); got != e || n != size || no != err {
		t.Errorf("Parse(%v): %v, %d, %v, want %v, %d, %v", b, got, n, no, e, size, err)
	}
}

func tooShort(t *testing.T, b ...byte) {
	t.Helper()
	parsed(t, b, api.Event{}, 0, api.ErrShort)
}

func refused(t *testing.T, b ...byte) {
	t.Helper()
	parsed(t, b, api.Event{}, 0, api.ErrBad)
}

// P14.2, example 1
func TestBytes(t *testing.T) {
	for _, c := range events() {
		if got := Bytes(c.e); !bytes.Equal(got, c.want) {
			t.Errorf("Bytes(%v): %v, want %v", c.e, got, c.want)
		}
	}
	for _, e := range unlike() {
		if got := Bytes(e); len(got) > 0 {
			t.Errorf("Bytes(%v), which is not Good: %v", e, got)
		}
	}
}

// P14.2: with others behind, which are not looked at.
func TestParse(t *testing.T) {
	for _, c := range events() {
		for _, behind := range [][]byte{nil, {0}, {1}, {128}, {255, 255}, c.want, make([]byte, 300), bytes.Repeat([]byte{255}, 300)} {
			parsed(t, slices.Concat(c.want, behind), c.e, len(c.want), api.OK)
		}
	}
}

// P14.2: the longest event that there is, and none may be cut.
func TestParseOfLongest(t *testing.T) {
	e := api.Event{Kind: Preempted, Act: far, Thread: far, Context: api.Context{Program: 7, PC: 64, Depth: 8}}
	for i := range e.Context.Regs {
		e.Context.Regs[i] = lowest
	}
	b := Bytes(e)
	if len(b) != 1+6+6+3+80 {
		t.Errorf("%d bytes", len(b))
	}
	parsed(t, b, e, len(b), api.OK)
	parsed(t, slices.Concat(b, b), e, len(b), api.OK)
	for i := range b {
		tooShort(t, b[:i]...)
	}
}

// P14.2: cut at each place, with room behind that is no part of the bytes.
func TestParseOfCut(t *testing.T) {
	tooShort(t)
	parsed(t, nil, api.Event{}, 0, api.ErrShort)
	parsed(t, []byte{}, api.Event{}, 0, api.ErrShort)
	for _, c := range events() {
		for i := range c.want {
			tooShort(t, c.want[:i]...)
			parsed(t, c.want[:i], api.Event{}, 0, api.ErrShort)
		}
	}
}

// P14.2: another kind, whether bytes follow or not.
func TestParseOfOtherKinds(t *testing.T) {
	for kind := range 256 {
		if kind >= Grant && kind <= Recycle {
			tooShort(t, byte(kind))
			continue
		}
		refused(t, byte(kind))
		refused(t, byte(kind), 1)
		refused(t, byte(kind), 128)
		refused(t, byte(kind), 1, 2, 3, 0, 0, 0, 0, 0, 0, 0, 0, 0, 0, 0)
		refused(t, byte(kind), 128, 0)
	}
}

// P14.2: numbers that code refuses, whether others lack behind them or not.
func TestParseOfNoNumbers(t *testing.T) {
	great := append(bytes.Repeat([]byte{255}, 9), 2) // 2^64 and more
	long := bytes.Repeat([]byte{128}, 10)            // of more than 10 bytes
	for _, c := range events() {
		// Each number that stands in the bytes begins behind one's last byte.
		for i := 1; i < len(c.want); i++ {
			if i > 1 && c.want[i-1] >= 128 {
				continue
			}
			for _, bad := range [][]byte{great, long, {128, 0}, {129, 0}, {255, 128, 0}} {
				refused(t, slices.Concat(c.want[:i], bad)...)
				refused(t, slices.Concat(c.want[:i], bad, c.want[i:])...)
				refused(t, slices.Concat(c.want[:i], bad, make([]byte, 20))...)
			}
			tooShort(t, append(slices.Clone(c.want[:i]), 128)...)
			tooShort(t, append(slices.Clone(c.want[:i]), long[:9]...)...)
			tooShort(t, append(slices.Clone(c.want[:i]), great[:9]...)...)
		}
	}
}

// P14.2: numbers that are written as they must be, of an event that is not Good.
func TestParseOfNotGood(t *testing.T) {
	above := []byte{129, 128, 128, 128, 128, 32}               // 2^40 + 1
	top := []byte{255, 255, 255, 255, 255, 255, 255, 255, 127} // 2^63 - 1
	over := []byte{128, 128, 128, 128, 128, 128, 128, 128, 128, 1}
	wrapped := append(bytes.Repeat([]byte{255}, 9), 1) // 2^64 - 1
	for _, n := range [][]byte{{0}, above, top, over, wrapped} {
		for _, kind := range []byte{Grant, Idle, Recycle} {
			refused(t, slices.Concat([]byte{kind}, n)...)
		}
		refused(t, slices.Concat([]byte{Blocked}, n, []byte{1})...)
		refused(t, slices.Concat([]byte{Blocked, 1}, n)...)
		refused(t, slices.Concat([]byte{Unblocked}, n, []byte{1, 1})...)
		refused(t, slices.Concat([]byte{Unblocked, 1}, n, []byte{1})...)
		refused(t, slices.Concat([]byte{Preempted}, n, []byte{1}, make([]byte, 11))...)
		refused(t, slices.Concat([]byte{Preempted, 1}, n, make([]byte, 11))...)
	}
	for _, n := range [][]byte{{233, 7}, {255, 127}, above, top, over, wrapped} {
		refused(t, slices.Concat([]byte{Unblocked, 1, 1}, n)...)
		refused(t, slices.Concat([]byte{Demand, 0}, n)...)
	}
	for _, n := range [][]byte{{1}, {128, 1}, above, top, over, wrapped} {
		refused(t, slices.Concat([]byte{Demand}, n, []byte{1})...)
	}
	for _, n := range [][]byte{{9}, {65}, {128, 8}, above, top, over, wrapped} {
		refused(t, slices.Concat([]byte{Preempted, 1, 1}, n, make([]byte, 10))...)
		refused(t, slices.Concat([]byte{Preempted, 1, 1, 0, 0}, n, make([]byte, 8))...)
	}
	refused(t, slices.Concat([]byte{Preempted, 1, 1, 8}, make([]byte, 10))...)
	refused(t, slices.Concat([]byte{Preempted, 1, 1, 0, 65}, make([]byte, 9))...)
	refused(t, slices.Concat([]byte{Preempted, 1, 1, 0, 0, 9}, make([]byte, 8))...)
}

// P14.2: a number that is written as it must be is no error of code's, though no
// Good event has it: what lacks behind it tells.
func TestParseOfNotGoodAndCut(t *testing.T) {
	tooShort(t, Blocked, 0)
	tooShort(t, Blocked, 0, 128)
	tooShort(t, Unblocked, 0, 0)
	tooShort(t, Demand, 1)
	tooShort(t, Demand, 7, 232)
	tooShort(t, Preempted, 0, 0, 8)
	tooShort(t, Preempted, 1, 1, 9, 65, 9)
	tooShort(t, Preempted, 1, 1, 8, 70, 10, 0, 0, 0, 0, 0, 0, 0)
}

// P14.2: the same of numbers above 2^40, in each place that has others behind it,
// up to the last that lacks. Whole, no such event is Good.
func TestParseOfGreatAndCut(t *testing.T) {
	for _, n := range [][]byte{
		{129, 128, 128, 128, 128, 32},                    // 2^40 + 1
		{128, 128, 128, 129, 128, 32},                    // 2^40 + 2^21
		{255, 255, 255, 255, 255, 255, 255, 255, 127},    // 2^63 - 1
		{128, 128, 128, 128, 128, 128, 128, 128, 128, 1}, // 2^63
		{129, 128, 128, 128, 128, 128, 128, 128, 128, 1}, // 2^63 + 1
		append(bytes.Repeat([]byte{255}, 9), 1),          // 2^64 - 1
	} {
		for _, c := range []struct {
			ahead []byte
			lack  int
		}{
			{[]byte{Grant}, 0},
			{[]byte{Blocked}, 1},
			{[]byte{Unblocked}, 2},
			{[]byte{Unblocked, 1}, 1},
			{[]byte{Demand}, 1},
			{[]byte{Preempted}, 12},
			{[]byte{Preempted, 1}, 11},
			{[]byte{Preempted, 1, 1}, 10},
			{[]byte{Preempted, 1, 1, 0}, 9},
			{[]byte{Preempted, 1, 1, 0, 0}, 8},
			{slices.Concat([]byte{Preempted}, n, n, n, n), 8},
		} {
			b := slices.Concat(c.ahead, n)
			for range c.lack {
				tooShort(t, b...)
				tooShort(t, slices.Concat(b, []byte{128})...)
				refused(t, slices.Concat(b, []byte{128, 0})...)
				b = append(b, 1)
			}
			refused(t, b...)
		}
	}
	tooShort(t, Blocked, 128, 128, 128, 128, 128, 32)
}

// P14.2: as many bytes as numbers can have, which an event that is not Good alone
// has.
func TestParseOfGreatNumbersAlone(t *testing.T) {
	b := []byte{Preempted}
	for range 13 {
		tooShort(t, b...)
		b = slices.Concat(b, bytes.Repeat([]byte{255}, 9))
		tooShort(t, b...)
		b = append(b, 1)
	}
	refused(t, b...)
	refused(t, slices.Concat(b, b)...)
}

// all holds All against what is wanted, and, of what there is, Read of that.
func all(t *testing.T, l []api.Event, want ...byte) {
	t.Helper()
	if got := All(l); !bytes.Equal(got, want) {
		t.Errorf("All(%v): %v, want %v", l, got, want)
	}
	if len(want) > 0 {
		read(t, want, l, api.OK)
	}
}

// read holds Read's answer against what is wanted.
func read(t *testing.T, b []byte, l []api.Event, err api.Errno) {
	t.Helper()
	if got, no := Read(b); !slices.Equal(got, l) || no != err {
		t.Errorf("Read(%v): %v, %v, want %v, %v", b, got, no, l, err)
	}
}

// P14.2, P14.4
func TestAll(t *testing.T) {
	all(t, nil, 0)
	all(t, []api.Event{}, 0)
	all(t, full()[:0], 0)
	var rows []api.Event
	var joined []byte
	for _, c := range events() {
		all(t, []api.Event{c.e}, append([]byte{1}, c.want...)...)
		all(t, []api.Event{c.e, c.e}, slices.Concat([]byte{2}, c.want, c.want)...)
		rows, joined = append(rows, c.e), append(joined, c.want...)
		all(t, rows, append([]byte{byte(len(rows))}, joined...)...)
	}
}

// P14.2: nothing, if one is not Good, wherever it is.
func TestAllOfNotGood(t *testing.T) {
	for _, e := range unlike() {
		for i := range 4 {
			l := full()[:4]
			l[i] = e
			all(t, l)
		}
		all(t, []api.Event{e})
	}
}

// P14.2: as many as may be, and one more.
func TestAllOfMany(t *testing.T) {
	of := func(count int, numbers ...byte) []byte {
		l := grants(count)
		b := slices.Clone(numbers)
		for _, e := range l {
			b = append(b, Bytes(e)...)
		}
		return b
	}
	all(t, grants(127), of(127, 127)...)
	all(t, grants(128), of(128, 128, 1)...)
	all(t, grants(1023), of(1023, 255, 7)...)
	all(t, grants(1024), of(1024, 128, 8)...)
	all(t, grants(1025))
	all(t, grants(5000))
	read(t, of(1025, 129, 8), nil, api.ErrBad)
	read(t, of(1025, 128, 8), nil, api.ErrBad)
	read(t, of(1024, 129, 8), nil, api.ErrBad)
	read(t, of(5000, 136, 39), nil, api.ErrBad)
}

// P14.2: nothing, bytes that are cut, and bytes that have more.
func TestReadOfOtherLengths(t *testing.T) {
	read(t, nil, nil, api.ErrBad)
	read(t, []byte{}, nil, api.ErrBad)
	b := All(full())
	for i := range b {
		read(t, b[:i], nil, api.ErrBad)
		read(t, slices.Clone(b[:i]), nil, api.ErrBad)
	}
	for _, more := range [][]byte{{0}, {1}, {128}, {255}, {1, 1}, b} {
		read(t, slices.Concat(b, more), nil, api.ErrBad)
		read(t, slices.Concat([]byte{0}, more), nil, api.ErrBad)
	}
}

// P14.2: another number of events than there are, or that code refuses.
func TestReadOfOtherCounts(t *testing.T) {
	b := All(full())
	for n := range 256 {
		if n != 7 {
			read(t, append([]byte{byte(n)}, b[1:]...), nil, api.ErrBad)
		}
	}
	for _, count := range [][]byte{
		{135, 0}, {135, 128, 0}, {128, 8}, {129, 8}, {255, 255, 255, 255, 15}, {135, 128, 128, 128, 16},
		append(bytes.Repeat([]byte{255}, 9), 1), append(bytes.Repeat([]byte{255}, 9), 2), bytes.Repeat([]byte{128}, 11),
	} {
		read(t, slices.Concat(count, b[1:]), nil, api.ErrBad)
		read(t, count, nil, api.ErrBad)
	}
	read(t, []byte{128, 0}, nil, api.ErrBad)
}

// P14.2: one that is none, wherever it is.
func TestReadOfNotGood(t *testing.T) {
	for _, bad := range [][]byte{
		{0}, {8}, {255}, {0, 1}, {8, 1}, {Grant, 0}, {Grant, 129, 0}, {Blocked, 1, 0}, {Demand, 1, 0}, {Unblocked, 1, 1, 233, 7},
		{Preempted, 1, 1, 8, 0, 0, 0, 0, 0, 0, 0, 0, 0, 0}, {Idle, 129, 128, 128, 128, 128, 32},
	} {
		one := []byte{Grant, 1}
		read(t, slices.Concat([]byte{1}, bad), nil, api.ErrBad)
		read(t, slices.Concat([]byte{2}, bad, one), nil, api.ErrBad)
		read(t, slices.Concat([]byte{2}, one, bad), nil, api.ErrBad)
		read(t, slices.Concat([]byte{3}, one, bad, one), nil, api.ErrBad)
	}
}

// R3: what is handed in stays, the room behind it too, and what is told is new
// memory.
func TestBytesMemory(t *testing.T) {
	e := full()[1]
	first, second := Bytes(e), Bytes(e)
	want := slices.Clone(second)
	clear(first[:cap(first)])
	if !bytes.Equal(second, want) || !bytes.Equal(Bytes(e), want) {
		t.Errorf("two answers of Bytes share: %v", second)
	}
	room := append(slices.Clone(want), 77, 78)
	kept := slices.Clone(room)
	got, _, _ := Parse(room[:len(want)])
	if !bytes.Equal(room, kept) || got != e {
		t.Errorf("Parse changed what it was given: %v", room)
	}
}

func TestAllAndReadMemory(t *testing.T) {
	whole := append(full(), api.Event{Kind: 77})
	kept := slices.Clone(whole)
	first, second := All(whole[:7]), All(whole[:7])
	want := slices.Clone(second)
	clear(first[:cap(first)])
	if !bytes.Equal(second, want) || !slices.Equal(whole, kept) {
		t.Errorf("All: %v, of %v", second, whole)
	}
	clear(whole)
	if !bytes.Equal(second, want) {
		t.Errorf("All kept what it was given: %v", second)
	}
	room := append(slices.Clone(want), 77, 78)
	b := slices.Clone(room)
	one, _ := Read(room[:len(want)])
	other, _ := Read(room[:len(want)])
	if !bytes.Equal(room, b) {
		t.Errorf("Read changed what it was given: %v", room)
	}
	clear(room)
	clear(one[:cap(one)])
	if !slices.Equal(other, full()) {
		t.Errorf("Read: %v", other)
	}
}
