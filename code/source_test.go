package code

import (
	"bytes"
	"slices"
	"strings"
	"testing"

	"wherry/api"
)

// stands looks at what s tells of itself: its error, and how many bytes it has
// left.
func stands(t *testing.T, what string, s *Source, err api.Errno, left int) {
	t.Helper()
	end := err
	if err == api.OK && left > 0 {
		end = api.ErrBad
	}
	// End comes ahead of the others, and twice: what it tells must not stay.
	first, second := s.End(), s.End()
	if s.Err() != err || s.Left() != left || first != end || second != end {
		t.Errorf("%s: Err %v, Left %d, End %v and %v, want %v, %d, %v", what, s.Err(), s.Left(), first, second, err, left, end)
	}
}

// tells looks at a value, and at what s tells of itself behind the call.
func tells[T comparable](t *testing.T, what string, s *Source, got, want T, err api.Errno, left int) {
	t.Helper()
	if got != want {
		t.Errorf("%s: %v, want %v", what, got, want)
	}
	stands(t, what, s, err, left)
}

// tellsInts is tells of ints.
func tellsInts(t *testing.T, what string, s *Source, got, want []int, err api.Errno, left int) {
	t.Helper()
	if !slices.Equal(got, want) {
		t.Errorf("%s: %v, want %v", what, got, want)
	}
	stands(t, what, s, err, left)
}

// P7.2: it ends where its last byte does, whatever follows.
func TestReadNum(t *testing.T) {
	for _, c := range []struct {
		b    []byte
		most uint64
		want uint64
		left int
	}{
		{[]byte{0}, largest, 0, 0},
		{[]byte{0}, 0, 0, 0},
		{[]byte{0, 0}, 0, 0, 1},
		{[]byte{1}, 1, 1, 0},
		{[]byte{127, 9, 9}, largest, 127, 2},
		{[]byte{128, 1}, largest, 128, 0},
		{[]byte{172, 2, 5}, largest, 300, 1},
		{[]byte{128, 128, 1}, largest, 1 << 14, 0},
		{ones(8, 127), largest, 1<<63 - 1, 0},
		{Num(nil, 1<<63), largest, 1 << 63, 0},
		{ones(9, 1), largest, largest, 0},
		{ones(9, 1, 255), largest, largest, 1},
	} {
		s := Read(c.b)
		stands(t, "Read", s, api.OK, len(c.b))
		tells(t, "Num", s, s.Num(c.most), c.want, api.OK, c.left)
	}
}

// P7.2: just at most, and one beside it.
func TestReadNumAboveMost(t *testing.T) {
	for _, n := range []uint64{1, 2, 127, 128, 300, 1<<63 - 1, 1 << 63, largest} {
		s := Read(Num(nil, n))
		tells(t, "at most", s, s.Num(n), n, api.OK, 0)
		s = Read(Num(nil, n))
		tells(t, "above most", s, s.Num(n-1), 0, api.ErrRange, 0)
		s = Read(Num(nil, n))
		tells(t, "above 0", s, s.Num(0), 0, api.ErrRange, 0)
		if n < largest {
			s = Read(Num(nil, n))
			tells(t, "below most", s, s.Num(n+1), n, api.OK, 0)
		}
	}
}

// badNums are bytes that are no Num, with their errors.
func badNums() []struct {
	b   []byte
	err api.Errno
} {
	zeros := bytes.Repeat([]byte{128}, 12)
	return []struct {
		b   []byte
		err api.Errno
	}{
		// It breaks off.
		{nil, api.ErrShort},
		{[]byte{128}, api.ErrShort},
		{[]byte{255}, api.ErrShort},
		{[]byte{128, 129}, api.ErrShort},
		{ones(8), api.ErrShort},
		{ones(9), api.ErrShort},
		{zeros[:9], api.ErrShort},
		// Its last byte is 0.
		{[]byte{128, 0}, api.ErrBad},
		{[]byte{255, 0}, api.ErrBad},
		{[]byte{129, 0, 7}, api.ErrBad},
		{[]byte{128, 128, 0}, api.ErrBad},
		{ones(8, 0), api.ErrBad},
		{ones(9, 0), api.ErrBad},
		// It is 2^64 or more.
		{ones(9, 2), api.ErrBad},
		{ones(9, 3), api.ErrBad},
		{ones(9, 127), api.ErrBad},
		{joined(zeros[:9], []byte{2}), api.ErrBad},
		{joined(zeros[:9], []byte{64}), api.ErrBad},
		// It has more than 10 bytes.
		{ones(9, 128), api.ErrBad},
		{ones(9, 129), api.ErrBad},
		{ones(9, 129, 0), api.ErrBad},
		{ones(9, 128, 1), api.ErrBad},
		{joined(zeros[:10], []byte{1}), api.ErrBad},
		{joined(zeros[:10], []byte{0}), api.ErrBad},
		{zeros[:10], api.ErrBad},
		{zeros, api.ErrBad},
		{ones(10), api.ErrBad},
		{ones(11, 1), api.ErrBad},
	}
}

// P7.2: each call that begins with a Num, whatever may be asked for.
func TestReadBadNum(t *testing.T) {
	for _, c := range badNums() {
		for _, most := range []uint64{0, 1, largest} {
			s := Read(c.b)
			tells(t, "Num", s, s.Num(most), 0, c.err, 0)
		}
		for _, ends := range [][2]int{{lowest, highest}, {0, 0}, {1, 0}, {highest, lowest}} {
			s := Read(c.b)
			tells(t, "Int", s, s.Int(ends[0], ends[1]), 0, c.err, 0)
		}
		for _, most := range []int{lowest, -1, 0, 1, highest} {
			s := Read(c.b)
			tells(t, "Text", s, s.Text(most), "", c.err, 0)
			s = Read(c.b)
			tellsInts(t, "Ints", s, s.Ints(most, lowest, highest), nil, c.err, 0)
			s = Read(c.b)
			tellsInts(t, "Ints", s, s.Ints(most, 1, 0), nil, c.err, 0)
		}
	}
}

// P7.2: just at least and at most, and one beside them.
func TestReadInt(t *testing.T) {
	for _, c := range []struct {
		n, least, most int
		err            api.Errno
	}{
		{0, 0, 0, api.OK},
		{0, lowest, highest, api.OK},
		{0, 1, highest, api.ErrRange},
		{0, lowest, -1, api.ErrRange},
		{1, 1, 1, api.OK},
		{1, 0, 2, api.OK},
		{1, 2, 2, api.ErrRange},
		{1, 0, 0, api.ErrRange},
		{-1, -1, -1, api.OK},
		{-1, -2, 0, api.OK},
		{-1, 0, 0, api.ErrRange},
		{-1, -2, -2, api.ErrRange},
		{-1, 0, highest, api.ErrRange},
		{300, -300, 300, api.OK},
		{-300, -300, 300, api.OK},
		{301, -300, 300, api.ErrRange},
		{-301, -300, 300, api.ErrRange},
		{highest, lowest, highest, api.OK},
		{highest, highest, highest, api.OK},
		{highest, lowest, highest - 1, api.ErrRange},
		{lowest, lowest, highest, api.OK},
		{lowest, lowest, lowest, api.OK},
		{lowest, lowest + 1, highest, api.ErrRange},
		// Nothing is from least to most.
		{0, 1, -1, api.ErrRange},
		{0, 1, 0, api.ErrRange},
		{1, 1, 0, api.ErrRange},
		{5, 6, 4, api.ErrRange},
		{5, 9, 3, api.ErrRange},
		{lowest, highest, lowest, api.ErrRange},
		{highest, highest, lowest, api.ErrRange},
	} {
		want, left := c.n, 2
		if c.err != api.OK {
			want, left = 0, 0
		}
		s := Read(append(Int(nil, c.n), 8, 9))
		tells(t, "Int", s, s.Int(c.least, c.most), want, c.err, left)
	}
}

// P7.2
func TestReadIntOfBytes(t *testing.T) {
	for _, c := range []struct {
		b    []byte
		want int
	}{
		{[]byte{0}, 0},
		{[]byte{1}, -1},
		{[]byte{2}, 1},
		{[]byte{3}, -2},
		{[]byte{172, 2}, 150},
		{[]byte{173, 2}, -151},
		{ones(9, 1), lowest},
		{joined([]byte{254}, ones(8, 1)), highest},
	} {
		s := Read(c.b)
		tells(t, "Int", s, s.Int(lowest, highest), c.want, api.OK, 0)
	}
}

// P7.2
func TestReadText(t *testing.T) {
	long := strings.Repeat("x", 300)
	for _, c := range []struct {
		b    []byte
		most int
		want string
		err  api.Errno
		left int
	}{
		{[]byte{0}, 0, "", api.OK, 0},
		{[]byte{0, 0}, -1, "", api.OK, 1},
		{[]byte{0}, lowest, "", api.OK, 0},
		{[]byte{0}, highest, "", api.OK, 0},
		{[]byte{1, 'a'}, 1, "a", api.OK, 0},
		{[]byte{1, 'a', 'b'}, highest, "a", api.OK, 1},
		{[]byte{3, 255, 128, 195, 1}, 3, "\xff\x80\xc3", api.OK, 1},
		{[]byte{2, 0, 0}, 2, "\x00\x00", api.OK, 0},
		{joined([]byte{172, 2}, []byte(long), []byte{1}), 300, long, api.OK, 1},
		{joined([]byte{172, 2}, []byte(long)), 299, "", api.ErrRange, 0},
		// More than most, though they are there.
		{[]byte{1, 'a'}, 0, "", api.ErrRange, 0},
		{[]byte{1, 'a'}, -1, "", api.ErrRange, 0},
		{[]byte{1, 'a'}, lowest, "", api.ErrRange, 0},
		{[]byte{3, 'a', 'b', 'c'}, 2, "", api.ErrRange, 0},
		// More than are left.
		{[]byte{1}, 1, "", api.ErrShort, 0},
		{[]byte{3, 'a', 'b'}, 3, "", api.ErrShort, 0},
		{[]byte{3, 'a', 'b'}, highest, "", api.ErrShort, 0},
		{Num(nil, highest), highest, "", api.ErrShort, 0},
		// Both: how many they are stands ahead of the bytes that lack.
		{[]byte{3, 'a', 'b'}, 2, "", api.ErrRange, 0},
		{[]byte{1}, 0, "", api.ErrRange, 0},
		{Num(nil, highest), highest - 1, "", api.ErrRange, 0},
		{Num(nil, 1<<63), highest, "", api.ErrRange, 0},
		{Num(nil, largest), highest, "", api.ErrRange, 0},
		{Num(nil, largest), -1, "", api.ErrRange, 0},
	} {
		s := Read(c.b)
		tells(t, "Text", s, s.Text(c.most), c.want, c.err, c.left)
	}
}

// P7.2
func TestReadFlag(t *testing.T) {
	for _, c := range []struct {
		b    []byte
		want bool
		err  api.Errno
		left int
	}{
		{[]byte{0}, false, api.OK, 0},
		{[]byte{1}, true, api.OK, 0},
		{[]byte{1, 2}, true, api.OK, 1},
		{nil, false, api.ErrShort, 0},
		{[]byte{2}, false, api.ErrBad, 0},
		{[]byte{3}, false, api.ErrBad, 0},
		{[]byte{128}, false, api.ErrBad, 0},
		{[]byte{129, 0}, false, api.ErrBad, 0},
		{[]byte{255, 1}, false, api.ErrBad, 0},
	} {
		s := Read(c.b)
		tells(t, "Flag", s, s.Flag(), c.want, c.err, c.left)
	}
}

// P7.2
func TestReadByte(t *testing.T) {
	for c := range 256 {
		s := Read([]byte{byte(c), 3})
		tells(t, "Byte", s, s.Byte(), byte(c), api.OK, 1)
		tells(t, "second Byte", s, s.Byte(), 3, api.OK, 0)
		tells(t, "third Byte", s, s.Byte(), 0, api.ErrShort, 0)
	}
}

// P7.2: the first error in the order in which the bytes stand.
func TestReadInts(t *testing.T) {
	for _, c := range []struct {
		b                  []byte
		count, least, most int
		want               []int
		err                api.Errno
		left               int
	}{
		{[]byte{0}, 0, 0, 0, nil, api.OK, 0},
		{[]byte{0, 2}, -1, 0, 0, nil, api.OK, 1},
		{[]byte{0}, lowest, 1, 0, nil, api.OK, 0},
		{[]byte{0}, highest, lowest, highest, nil, api.OK, 0},
		{[]byte{1, 2}, 1, 1, 1, []int{1}, api.OK, 0},
		{[]byte{2, 2, 1}, 2, -1, 1, []int{1, -1}, api.OK, 0},
		{[]byte{2, 2, 1}, 9, -5, 5, []int{1, -1}, api.OK, 0},
		{[]byte{2, 2, 1, 7, 7}, highest, lowest, highest, []int{1, -1}, api.OK, 2},
		{joined([]byte{2}, ones(9, 1), []byte{254}, ones(8, 1)), 2, lowest, highest, []int{lowest, highest}, api.OK, 0},
		{joined([]byte{172, 2}, make([]byte, 300)), 300, 0, 0, make([]int, 300), api.OK, 0},
		{joined([]byte{172, 2}, make([]byte, 300)), 299, 0, 0, nil, api.ErrRange, 0},
		// More than count, though they are there.
		{[]byte{1, 2}, 0, 1, 1, nil, api.ErrRange, 0},
		{[]byte{1, 2}, -1, 1, 1, nil, api.ErrRange, 0},
		{[]byte{1, 2}, lowest, 1, 1, nil, api.ErrRange, 0},
		{[]byte{2, 2, 1}, 1, -5, 5, nil, api.ErrRange, 0},
		{Num(nil, 1<<63), highest, lowest, highest, nil, api.ErrRange, 0},
		{Num(nil, largest), highest, lowest, highest, nil, api.ErrRange, 0},
		// More than are left.
		{[]byte{1}, 1, lowest, highest, nil, api.ErrShort, 0},
		{[]byte{3, 2, 1}, 3, lowest, highest, nil, api.ErrShort, 0},
		{append(Num(nil, highest), 2, 1), highest, lowest, highest, nil, api.ErrShort, 0},
		{append(Num(nil, 1<<40), 2, 1), highest, -1, 1, nil, api.ErrShort, 0},
		// One is out of its range: the first, one between, the last.
		{[]byte{3, 4, 2, 1}, 3, -1, 1, nil, api.ErrRange, 0},
		{[]byte{3, 2, 4, 1}, 3, -1, 1, nil, api.ErrRange, 0},
		{[]byte{3, 2, 1, 3}, 3, -1, 1, nil, api.ErrRange, 0},
		{[]byte{1, 0}, 1, 1, -1, nil, api.ErrRange, 0},
		// One is not well written, or breaks off.
		{[]byte{2, 2, 128, 0}, 2, lowest, highest, nil, api.ErrBad, 0},
		{joined([]byte{2}, ones(9, 2), []byte{2}), 2, lowest, highest, nil, api.ErrBad, 0},
		{[]byte{2, 2, 128}, 2, lowest, highest, nil, api.ErrShort, 0},
		// Several are due: how many they are ..
		{[]byte{2, 2, 128}, 1, lowest, highest, nil, api.ErrRange, 0},
		{[]byte{2, 128, 0}, 1, lowest, highest, nil, api.ErrRange, 0},
		{[]byte{9}, 8, lowest, highest, nil, api.ErrRange, 0},
		// .. and each of them ahead of what stands behind it.
		{[]byte{9, 2, 4, 1}, 9, -1, 1, nil, api.ErrRange, 0},
		{[]byte{9, 2, 128, 0}, 9, -1, 1, nil, api.ErrBad, 0},
		{append(Num(nil, highest), 4), highest, -1, 1, nil, api.ErrRange, 0},
		{[]byte{3, 4, 128, 0, 128}, 3, -1, 1, nil, api.ErrRange, 0},
		{[]byte{3, 128, 0, 4, 128}, 3, -1, 1, nil, api.ErrBad, 0},
		{[]byte{3, 2, 1, 255}, 3, -1, 1, nil, api.ErrShort, 0},
	} {
		s := Read(c.b)
		tellsInts(t, "Ints", s, s.Ints(c.count, c.least, c.most), c.want, c.err, c.left)
	}
}

// P7.2, R3
func TestReadIntsIsInNewMemory(t *testing.T) {
	b := []byte{2, 2, 1}
	first, second := Read(b).Ints(2, -1, 1), Read(b).Ints(2, -1, 1)
	clear(first[:cap(first)])
	if !slices.Equal(second, []int{1, -1}) {
		t.Errorf("two answers share memory: %v", second)
	}
	written(t, "Ints", b, []byte{2, 2, 1})
}

// nothing looks that each call tells its zero value, and leaves the error.
func nothing(t *testing.T, s *Source, err api.Errno) {
	t.Helper()
	tells(t, "Num behind an error", s, s.Num(largest), 0, err, 0)
	tells(t, "Num behind an error", s, s.Num(0), 0, err, 0)
	tells(t, "Int behind an error", s, s.Int(lowest, highest), 0, err, 0)
	tells(t, "Int behind an error", s, s.Int(1, -1), 0, err, 0)
	tells(t, "Text behind an error", s, s.Text(highest), "", err, 0)
	tells(t, "Text behind an error", s, s.Text(lowest), "", err, 0)
	tells(t, "Flag behind an error", s, s.Flag(), false, err, 0)
	tellsInts(t, "Ints behind an error", s, s.Ints(highest, lowest, highest), nil, err, 0)
	tellsInts(t, "Ints behind an error", s, s.Ints(lowest, 1, -1), nil, err, 0)
	tells(t, "Byte behind an error", s, s.Byte(), 0, err, 0)
}

// P7.2: behind each error of each call, whatever bytes follow; each byte 1 is a
// value of every kind.
func TestBehindAnError(t *testing.T) {
	follow := []byte{1, 1, 1, 1, 1, 1}
	for _, c := range []struct {
		name string
		b    []byte
		call func(s *Source)
		err  api.Errno
	}{
		{"Num", []byte{172, 2}, func(s *Source) { s.Num(299) }, api.ErrRange},
		{"Num", []byte{128, 0}, func(s *Source) { s.Num(largest) }, api.ErrBad},
		{"Int", []byte{2}, func(s *Source) { s.Int(2, 3) }, api.ErrRange},
		{"Int", []byte{128, 0}, func(s *Source) { s.Int(0, 9) }, api.ErrBad},
		{"Text", []byte{2}, func(s *Source) { s.Text(1) }, api.ErrRange},
		{"Text", []byte{100}, func(s *Source) { s.Text(100) }, api.ErrShort},
		{"Flag", []byte{2}, func(s *Source) { s.Flag() }, api.ErrBad},
		{"Ints", []byte{2}, func(s *Source) { s.Ints(1, -1, 1) }, api.ErrRange},
		{"Ints", []byte{2, 9}, func(s *Source) { s.Ints(2, -1, 1) }, api.ErrRange},
		{"Ints", []byte{2, 128, 0}, func(s *Source) { s.Ints(2, -1, 1) }, api.ErrBad},
		{"Ints", []byte{100}, func(s *Source) { s.Ints(100, -1, 1) }, api.ErrShort},
	} {
		s := Read(joined([]byte{1}, c.b, follow))
		tells(t, "Byte ahead", s, s.Byte(), 1, api.OK, len(c.b)+len(follow))
		c.call(s)
		stands(t, c.name, s, c.err, 0)
		nothing(t, s, c.err)
	}
}

// P7.2: no bytes are left, and none behind that either.
func TestBehindShort(t *testing.T) {
	for _, call := range []func(s *Source){
		func(s *Source) { s.Num(largest) },
		func(s *Source) { s.Int(lowest, highest) },
		func(s *Source) { s.Text(highest) },
		func(s *Source) { s.Flag() },
		func(s *Source) { s.Ints(highest, lowest, highest) },
		func(s *Source) { s.Byte() },
	} {
		for _, b := range [][]byte{nil, {}} {
			s := Read(b)
			stands(t, "Read of none", s, api.OK, 0)
			call(s)
			stands(t, "behind one call", s, api.ErrShort, 0)
			nothing(t, s, api.ErrShort)
		}
	}
}

// P7.2: Left ahead of, between and behind calls; each leaves what it told behind.
func TestLeft(t *testing.T) {
	s := Read([]byte{172, 2, 1, 2, 'a', 'b', 1, 2, 2, 1, 200})
	stands(t, "Read", s, api.OK, 11)
	tells(t, "Num", s, s.Num(300), 300, api.OK, 9)
	tells(t, "Int", s, s.Int(-1, 0), -1, api.OK, 8)
	tells(t, "Text", s, s.Text(2), "ab", api.OK, 5)
	tells(t, "Flag", s, s.Flag(), true, api.OK, 4)
	tellsInts(t, "Ints", s, s.Ints(2, -1, 1), []int{1, -1}, api.OK, 1)
	tells(t, "Byte", s, s.Byte(), 200, api.OK, 0)
	tells(t, "Flag", s, s.Flag(), false, api.ErrShort, 0)
	nothing(t, s, api.ErrShort)
}

// P7.2: what End tells of bytes that are left doesn't stay, and hinders nothing.
func TestEnd(t *testing.T) {
	s := Read([]byte{5, 6})
	for _, c := range []struct {
		want byte
		end  api.Errno
	}{{5, api.ErrBad}, {6, api.OK}, {0, api.ErrShort}} {
		if got := s.Byte(); got != c.want {
			t.Errorf("Byte: %d, want %d", got, c.want)
		}
		if got := s.End(); got != c.end {
			t.Errorf("End: %v, want %v", got, c.end)
		}
	}
	// Behind an error it is that one that is told, bytes left or not.
	s = Read([]byte{2, 1, 1})
	s.Num(1)
	stands(t, "behind a Num above most", s, api.ErrRange, 0)
}

// P7.2, R3: the caller may change the bytes, and the room behind them, behind
// Read; and Read and the calls leave them.
func TestReadKeepsNoBytesOfOthers(t *testing.T) {
	whole := []byte{172, 2, 2, 'a', 'b', 9, 9}
	b := whole[:5]
	s := Read(b)
	written(t, "Read", whole, []byte{172, 2, 2, 'a', 'b', 9, 9})
	clear(whole)
	tells(t, "Num", s, s.Num(300), 300, api.OK, 3)
	tells(t, "Text", s, s.Text(2), "ab", api.OK, 0)
	tells(t, "Byte", s, s.Byte(), 0, api.ErrShort, 0)
	written(t, "the calls", whole, make([]byte, 7))
}

// P7.2: each Read tells a Source of its own.
func TestSourcesGoTheirOwnWays(t *testing.T) {
	b := []byte{1, 2, 3}
	first, second := Read(b), Read(b)
	tells(t, "Byte", first, first.Byte(), 1, api.OK, 2)
	tells(t, "Flag", first, first.Flag(), false, api.ErrBad, 0)
	tells(t, "Byte", second, second.Byte(), 1, api.OK, 2)
	tells(t, "Byte", second, second.Byte(), 2, api.OK, 1)
}

// P7.2, R5, P1
func TestSourceThatNoCallMade(t *testing.T) {
	for _, s := range []*Source{nil, {}, new(Source)} {
		stands(t, "not made", s, api.ErrMade, 0)
		nothing(t, s, api.ErrMade)
		stands(t, "not made", s, api.ErrMade, 0)
	}
	var none Source
	none.Byte()
	if none.made || none.rest != nil || none.err != api.OK {
		t.Errorf("a Source that no call made was changed: %v", none)
	}
}

// P7.2: calls of a nil *Source as values, as layers above take them.
func TestMethodValuesOfNone(t *testing.T) {
	var none *Source
	flag, next := none.Flag, none.Byte
	tells(t, "Flag", none, flag(), false, api.ErrMade, 0)
	tells(t, "Byte", none, next(), 0, api.ErrMade, 0)
}
