package isa

import (
	"bytes"
	"slices"
	"testing"

	"wherry/api"
)

// written holds Bytes against what is wanted, and, of what there is, Parse of that
// against the program.
func written(t *testing.T, p api.Program, want ...byte) {
	t.Helper()
	if got := Bytes(p); !bytes.Equal(got, want) {
		t.Errorf("Bytes(%v): %v, want %v", p, got, want)
	}
	if len(want) > 0 {
		parsed(t, want, p, api.OK)
	}
}

// parsed holds Parse's answer against what is wanted.
func parsed(t *testing.T, b []byte, p api.Program, err api.Errno) {
	t.Helper()
	if got, e := Parse(b); !slices.Equal(got, p) || e != err {
		t.Errorf("Parse(%v): %v, %v, want %v, %v", b, got, e, p, err)
	}
}

// refused looks that Parse takes these for none.
func refused(t *testing.T, b ...byte) {
	t.Helper()
	parsed(t, b, nil, api.ErrBad)
}

// P12.2, P12.4: of each operation, with numbers that differ.
func TestBytes(t *testing.T) {
	written(t, nil, 0)
	written(t, api.Program{}, 0)
	written(t, filled(3)[:0], 0)
	written(t, api.Program{{Op: Set, A: 0, B: 5}, {Op: Loop, A: 0, B: 1}, {Op: Exit}}, 3, 1, 0, 10, 8, 0, 2, 11, 0)
	for _, c := range []struct {
		in   api.Instr
		want []byte
	}{
		{api.Instr{Op: Nop}, []byte{0}},
		{api.Instr{Op: Set, A: 7, B: -far}, []byte{1, 14, 255, 255, 255, 255, 255, 63}},
		{api.Instr{Op: Set, A: 7, B: far}, []byte{1, 14, 128, 128, 128, 128, 128, 64}},
		{api.Instr{Op: Set, A: 1, B: -1}, []byte{1, 2, 1}},
		{api.Instr{Op: Set, A: 1, B: 64}, []byte{1, 2, 128, 1}},
		{api.Instr{Op: Add, A: 1, B: 2}, []byte{2, 2, 4}},
		{api.Instr{Op: Sub, A: 2, B: 1}, []byte{3, 4, 2}},
		{api.Instr{Op: Copy, A: 3, B: 7}, []byte{4, 6, 14}},
		{api.Instr{Op: Less, A: 1, B: 2, C: 3}, []byte{5, 2, 4, 6}},
		{api.Instr{Op: Jump, A: 1}, []byte{6, 2}},
		{api.Instr{Op: Zero, A: 3, B: 1}, []byte{7, 6, 2}},
		{api.Instr{Op: Loop, A: 4, B: 0}, []byte{8, 8, 0}},
		{api.Instr{Op: Enter}, []byte{9}},
		{api.Instr{Op: Leave}, []byte{10}},
		{api.Instr{Op: Exit, A: 7}, []byte{11, 14}},
		{api.Instr{Op: Yield}, []byte{12}},
		{api.Instr{Op: Spawn, A: 7, B: 65536, C: 3}, []byte{13, 14, 128, 128, 8, 6}},
		{api.Instr{Op: Spawn, A: 0, B: 1, C: 7}, []byte{13, 0, 2, 14}},
		{api.Instr{Op: Join, A: 1, C: 2}, []byte{14, 2, 4}},
		{api.Instr{Op: Lock, A: 3}, []byte{15, 6}},
		{api.Instr{Op: Unlock, A: 2}, []byte{16, 4}},
		{api.Instr{Op: Wait, A: 3, B: 1}, []byte{17, 6, 2}},
		{api.Instr{Op: Signal, A: 1}, []byte{18, 2}},
		{api.Instr{Op: Cast}, []byte{19, 0}},
		{api.Instr{Op: Down, A: 2}, []byte{20, 4}},
		{api.Instr{Op: Up, A: 3}, []byte{21, 6}},
		{api.Instr{Op: Sleep, A: 1}, []byte{22, 2}},
		{api.Instr{Op: Sleep, A: 1000}, []byte{22, 208, 15}},
		{api.Instr{Op: Read, A: 0, C: 5}, []byte{23, 0, 10}},
		{api.Instr{Op: Write, A: 1000, C: 1}, []byte{24, 208, 15, 2}},
		{api.Instr{Op: Self, C: 6}, []byte{25, 12}},
		{api.Instr{Op: Time, C: 7}, []byte{26, 14}},
	} {
		written(t, api.Program{c.in}, append([]byte{1}, c.want...)...)
		written(t, api.Program{{Op: Exit, A: 1}, c.in}, append([]byte{2, 11, 2}, c.want...)...)
		written(t, api.Program{c.in, {Op: Yield}}, append(append([]byte{2}, c.want...), 12)...)
	}
}

// P12.2: as many as may be, and one more.
func TestBytesOfMany(t *testing.T) {
	written(t, filled(63), append([]byte{63}, make([]byte, 63)...)...)
	written(t, filled(64), append([]byte{64}, make([]byte, 64)...)...)
	written(t, filled(65))
	written(t, filled(200))
	refused(t, append([]byte{65}, make([]byte, 65)...)...)
	refused(t, append([]byte{200, 1}, make([]byte, 200)...)...)
	last := with(api.Instr{Op: Jump, A: 64}, 63, 64)
	written(t, last, append(append([]byte{64}, make([]byte, 63)...), 6, 128, 1)...)
}

// P12.2: nothing of a program that is not Whole, wherever the fault is.
func TestBytesOfNotWhole(t *testing.T) {
	for _, in := range []api.Instr{
		{Op: -1}, {Op: 27}, {Op: 256}, {Op: 256 + 11}, {Op: Exit, A: 8}, {Op: Exit, A: -1}, {Op: Exit, B: 1},
		{Op: Set, B: far + 1}, {Op: Set, B: -far - 1}, {Op: Jump, A: 10}, {Op: Nop, C: 1}, {Op: Join, B: 1},
		{Op: Spawn}, {Op: Sleep}, {Op: Lock, A: 4}, {Op: Read, A: 1001}, {Op: Self, A: 1}, {Op: Time, B: -1},
	} {
		for _, p := range []api.Program{{in}, with(in, 0, 9), with(in, 4, 9), with(in, 8, 9)} {
			written(t, p)
		}
	}
}

// P12.2: nothing, bytes that are cut, and bytes that have more.
func TestParseOfOtherLengths(t *testing.T) {
	refused(t)
	parsed(t, []byte{}, nil, api.ErrBad)
	b := Bytes(api.Program{
		{Op: Set, A: 1, B: -far}, {Op: Spawn, A: 1, B: 65536, C: 2}, {Op: Less, A: 1, B: 2, C: 3}, {Op: Yield}, {Op: Time, C: 4},
	})
	for i := range b {
		refused(t, b[:i]...)
	}
	for _, more := range [][]byte{{0}, {1}, {11}, {128}, {255}, {11, 0}, b} {
		refused(t, slices.Concat(b, more)...)
		refused(t, slices.Concat([]byte{0}, more)...)
	}
	// The room behind the end is no part of the bytes.
	all := append(slices.Clone(b), 12)
	refused(t, all[:len(b)-1]...)
	if _, err := Parse(all[:len(b)]); err != api.OK {
		t.Errorf("Parse with room behind: %v", err)
	}
}

// P12.2: bytes that say another count than there is.
func TestParseOfOtherCounts(t *testing.T) {
	b := []byte{3, 1, 0, 10, 8, 0, 2, 11, 0}
	parsed(t, b, api.Program{{Op: Set, A: 0, B: 5}, {Op: Loop, A: 0, B: 1}, {Op: Exit}}, api.OK)
	for n := range 256 {
		if n != 3 {
			refused(t, append([]byte{byte(n)}, b[1:]...)...)
		}
	}
	great := []byte{255, 255, 255, 255, 255, 255, 255, 255, 255, 1}
	refused(t, great...)
	refused(t, slices.Concat(great, b[1:])...)
	refused(t, slices.Concat([]byte{255, 255, 255, 255, 15}, b[1:])...)
}

// P12.2: a number in more bytes than it needs, or in more than there can be.
func TestParseOfOtherWays(t *testing.T) {
	refused(t, 128, 0)
	refused(t, 129, 0, 12)
	refused(t, 129, 128, 0, 12)
	refused(t, 1, 11, 130, 0)
	refused(t, 1, 11, 128, 0)
	refused(t, 1, 1, 130, 0, 10)
	refused(t, 1, 1, 2, 138, 0)
	refused(t, 1, 5, 2, 4, 134, 0)
	refused(t, 1, 11, 255, 255, 255, 255, 255, 255, 255, 255, 255, 1)
	refused(t, 1, 11, 255, 255, 255, 255, 255, 255, 255, 255, 255, 2)
	refused(t, 1, 11, 255, 255, 255, 255, 255, 255, 255, 255, 255, 255, 1)
	// An Op is a byte, and has no other way.
	refused(t, 1, 139, 0, 2)
}

// P12.2: an operation that is none, and numbers that are not of its Shape.
func TestParseOfNotWhole(t *testing.T) {
	for op := 27; op < 256; op++ {
		refused(t, 1, byte(op))
		refused(t, 1, byte(op), 0)
		refused(t, 1, byte(op), 0, 0, 0)
		refused(t, 2, 12, byte(op))
		refused(t, 2, byte(op), 12)
	}
	refused(t, 1, 11, 16)                            // a register 8
	refused(t, 1, 11, 1)                             // -1
	refused(t, 1, 1, 0, 130, 128, 128, 128, 128, 64) // 2^40 + 1
	refused(t, 1, 1, 0, 129, 128, 128, 128, 128, 64) // -2^40 - 1
	refused(t, 1, 6, 4)                              // a place 2 of one instruction
	parsed(t, []byte{2, 6, 4, 0}, api.Program{{Op: Jump, A: 2}, {}}, api.OK)
	parsed(t, []byte{2, 0, 6, 4}, api.Program{{}, {Op: Jump, A: 2}}, api.OK)
	refused(t, 2, 6, 6, 0)
	refused(t, 1, 13, 16, 2, 0)          // a program 8
	refused(t, 1, 13, 0, 0, 0)           // no tickets
	refused(t, 1, 13, 0, 130, 128, 8, 0) // 65537 tickets
	refused(t, 1, 13, 0, 2, 16)
	refused(t, 1, 15, 8) // an object 4
	refused(t, 1, 17, 0, 8)
	refused(t, 1, 22, 0)       // no ticks
	refused(t, 1, 22, 210, 15) // 1001 ticks
	refused(t, 1, 23, 210, 15, 0)
	refused(t, 1, 14, 0, 0, 0) // what is not used is not written
	refused(t, 1, 12, 0)
}

// R3: what is told is new memory, and what is handed in is neither changed nor
// kept.
func TestBytesAndParseMemory(t *testing.T) {
	p := api.Program{{Op: Set, A: 0, B: 5}, {Op: Loop, A: 0, B: 1}, {Op: Exit}}
	want := []byte{3, 1, 0, 10, 8, 0, 2, 11, 0}
	first, second := Bytes(p), Bytes(p)
	clear(first[:cap(first)])
	written(t, p, want...)
	if !bytes.Equal(second, want) {
		t.Errorf("the other one: %v, want %v", second, want)
	}
	p[0].B = 6
	if !bytes.Equal(second, want) {
		t.Errorf("behind a change of the program: %v, want %v", second, want)
	}
	p[0].B = 5
	all := append(slices.Clone(want), 77, 78)
	b := all[:len(want)]
	one, _ := Parse(b)
	other, _ := Parse(b)
	if !bytes.Equal(all, append(slices.Clone(want), 77, 78)) {
		t.Errorf("Parse changed what it was given: %v", all)
	}
	clear(all)
	clear(one[:cap(one)])
	if !Same(other, p) {
		t.Errorf("the other one: %v, want %v", other, p)
	}
	parsed(t, want, p, api.OK)
}
