package code

import (
	"bytes"
	"math"
	"slices"
	"strings"
	"testing"
)

const (
	lowest  = math.MinInt
	highest = math.MaxInt
	largest = math.MaxUint64
)

// ones is so many bytes of 255, all bits ones, and these behind.
func ones(count int, behind ...byte) []byte {
	return append(bytes.Repeat([]byte{255}, count), behind...)
}

// joined is the pieces, one behind the other.
func joined(pieces ...[]byte) []byte {
	return slices.Concat(pieces...)
}

func written(t *testing.T, what string, got, want []byte) {
	t.Helper()
	if !bytes.Equal(got, want) {
		t.Errorf("%s: %v, want %v", what, got, want)
	}
}

// P7.1, example 1
func TestNum(t *testing.T) {
	for _, c := range []struct {
		n    uint64
		want []byte
	}{
		{0, []byte{0}},
		{1, []byte{1}},
		{126, []byte{126}},
		{127, []byte{127}},
		{128, []byte{128, 1}},
		{129, []byte{129, 1}},
		{255, []byte{255, 1}},
		{256, []byte{128, 2}},
		{300, []byte{172, 2}},
		{1<<14 - 1, []byte{255, 127}},
		{1 << 14, []byte{128, 128, 1}},
		{1<<56 - 1, ones(7, 127)},
		{1 << 56, []byte{128, 128, 128, 128, 128, 128, 128, 128, 1}},
		{1<<63 - 1, ones(8, 127)},
		{1 << 63, []byte{128, 128, 128, 128, 128, 128, 128, 128, 128, 1}},
		{largest - 1, joined([]byte{254}, ones(8, 1))},
		{largest, ones(9, 1)},
	} {
		written(t, "Num", Num(nil, c.n), c.want)
	}
}

// P7.1, example 1
func TestInt(t *testing.T) {
	for _, c := range []struct {
		n    int
		want []byte
	}{
		{0, []byte{0}},
		{-1, []byte{1}},
		{1, []byte{2}},
		{-2, []byte{3}},
		{2, []byte{4}},
		{63, []byte{126}},
		{-64, []byte{127}},
		{64, []byte{128, 1}},
		{-65, []byte{129, 1}},
		{150, []byte{172, 2}},
		{highest, joined([]byte{254}, ones(8, 1))},
		{lowest, ones(9, 1)},
		{lowest + 1, joined([]byte{253}, ones(8, 1))},
	} {
		written(t, "Int", Int(nil, c.n), c.want)
	}
}

// P7.1: the bytes of a Text stand as they are, whatever they are.
func TestText(t *testing.T) {
	long := strings.Repeat("wherry", 50)
	for _, c := range []struct {
		s    string
		want []byte
	}{
		{"", []byte{0}},
		{"a", []byte{1, 'a'}},
		{"\x00", []byte{1, 0}},
		{"ab", []byte{2, 'a', 'b'}},
		{"é", []byte{2, 0xc3, 0xa9}},
		{"\xff\x80\xc3", []byte{3, 0xff, 0x80, 0xc3}},
		{long[:127], joined([]byte{127}, []byte(long[:127]))},
		{long[:128], joined([]byte{128, 1}, []byte(long[:128]))},
		{long, joined([]byte{172, 2}, []byte(long))},
	} {
		written(t, "Text", Text(nil, c.s), c.want)
	}
}

// P7.1
func TestFlag(t *testing.T) {
	written(t, "Flag(false)", Flag(nil, false), []byte{0})
	written(t, "Flag(true)", Flag(nil, true), []byte{1})
}

// P7.1, example 1
func TestInts(t *testing.T) {
	for _, c := range []struct {
		l    []int
		want []byte
	}{
		{nil, []byte{0}},
		{[]int{}, []byte{0}},
		{[]int{0}, []byte{1, 0}},
		{[]int{64}, []byte{1, 128, 1}},
		{[]int{1, -1}, []byte{2, 2, 1}},
		{[]int{-1, 1, 0}, []byte{3, 1, 2, 0}},
		{[]int{lowest, highest}, joined([]byte{2}, ones(9, 1), []byte{254}, ones(8, 1))},
		{make([]int, 127), joined([]byte{127}, make([]byte, 127))},
		{make([]int, 128), joined([]byte{128, 1}, make([]byte, 128))},
		{make([]int, 300), joined([]byte{172, 2}, make([]byte, 300))},
	} {
		written(t, "Ints", Ints(nil, c.l), c.want)
	}
}

// put is one of the calls that put a value, and the value's bytes.
type put struct {
	name string
	call func(b []byte) []byte
	want []byte
}

func puts() []put {
	return []put{
		{"Num(0)", func(b []byte) []byte { return Num(b, 0) }, []byte{0}},
		{"Num(300)", func(b []byte) []byte { return Num(b, 300) }, []byte{172, 2}},
		{"Num(2^64 - 1)", func(b []byte) []byte { return Num(b, largest) }, ones(9, 1)},
		{"Int(0)", func(b []byte) []byte { return Int(b, 0) }, []byte{0}},
		{"Int(-1)", func(b []byte) []byte { return Int(b, -1) }, []byte{1}},
		{"Int(lowest)", func(b []byte) []byte { return Int(b, lowest) }, ones(9, 1)},
		{"Text of none", func(b []byte) []byte { return Text(b, "") }, []byte{0}},
		{"Text", func(b []byte) []byte { return Text(b, "abc") }, []byte{3, 'a', 'b', 'c'}},
		{"Flag(false)", func(b []byte) []byte { return Flag(b, false) }, []byte{0}},
		{"Flag(true)", func(b []byte) []byte { return Flag(b, true) }, []byte{1}},
		{"Ints of none", func(b []byte) []byte { return Ints(b, nil) }, []byte{0}},
		{"Ints", func(b []byte) []byte { return Ints(b, []int{1, -1}) }, []byte{2, 2, 1}},
	}
}

// P7.1: behind bytes that are there already, whatever they are.
func TestPutBehind(t *testing.T) {
	for _, p := range puts() {
		for _, ahead := range [][]byte{nil, {}, {0}, {7}, {128}, {1, 2, 3}, ones(40)} {
			written(t, p.name, p.call(ahead), joined(ahead, p.want))
		}
	}
}

// P7.1, R3: neither the bytes that are handed in nor the room behind their end
// change, and the answer, its spare room too, is not theirs.
func TestPutIsInNewMemory(t *testing.T) {
	for _, p := range puts() {
		for _, size := range []int{0, 1, 3} {
			for _, room := range []int{0, 1, 2, 64} {
				whole := ones(size + room)
				got := p.call(whole[:size])
				written(t, p.name+" told", got, joined(ones(size), p.want))
				written(t, p.name+" changed", whole, ones(size+room))
				clear(got[:cap(got)])
				written(t, p.name+" shares", whole, ones(size+room))
			}
		}
	}
}

// P7.1, R3: two answers from one list behind which there is room don't share it.
func TestPutTwiceBehindOneList(t *testing.T) {
	for _, p := range puts() {
		base := p.call(nil)
		first := p.call(base)
		second := Num(base, 77)
		written(t, p.name, first, joined(p.want, p.want))
		written(t, p.name+", Num", second, joined(p.want, []byte{77}))
	}
}

// P7.1, R3: a pure function.
func TestIntsLeavesItsArgument(t *testing.T) {
	whole := []int{5, -6, 7, 8}
	written(t, "Ints", Ints(nil, whole[:2]), []byte{2, 10, 11})
	written(t, "Ints again", Ints(nil, whole[:2]), []byte{2, 10, 11})
	if !slices.Equal(whole, []int{5, -6, 7, 8}) {
		t.Errorf("Ints changed what it was given: %v", whole)
	}
}
