package code

import (
	"bytes"
	"encoding/binary"
	"math/big"
	"math/rand"
	"slices"
	"testing"

	"wherry/api"
)

// The tests of this file put drawn values, the same ones each time, and get them
// again; and get values of all short bytes and of drawn ones, and hold what is
// told against a plain reading with numbers of any length. A call that panicked
// there would fail them too (P1).

// reading is a plain Source: its calls tell the error too, and nothing is kept
// from one to the next but the bytes.
type reading struct {
	b []byte
}

func (r *reading) num() (*big.Int, api.Errno) {
	// The number ends at the first byte below 128.
	size := 1 + slices.IndexFunc(r.b, func(c byte) bool { return c < 128 })
	if size == 0 && len(r.b) < 10 {
		return nil, api.ErrShort
	}
	if size == 0 || size > 10 || size > 1 && r.b[size-1] == 0 {
		return nil, api.ErrBad
	}
	n := new(big.Int)
	for i := size - 1; i >= 0; i-- {
		n.Lsh(n, 7)
		n.Add(n, big.NewInt(int64(r.b[i]%128)))
	}
	if n.BitLen() > 64 {
		return nil, api.ErrBad
	}
	r.b = r.b[size:]
	return n, api.OK
}

func (r *reading) numTo(most *big.Int) (uint64, api.Errno) {
	n, err := r.num()
	if err != api.OK {
		return 0, err
	}
	if n.Cmp(most) > 0 {
		return 0, api.ErrRange
	}
	return n.Uint64(), api.OK
}

// count is most of a Text or of Ints, below 0: 0.
func count(most int) *big.Int {
	return big.NewInt(int64(max(most, 0)))
}

func (r *reading) int(least, most int) (int, api.Errno) {
	n, err := r.num()
	if err != api.OK {
		return 0, err
	}
	if n.Bit(0) == 1 {
		n.Neg(n.Add(n, big.NewInt(1)))
	}
	n.Quo(n, big.NewInt(2))
	if n.Cmp(big.NewInt(int64(least))) < 0 || n.Cmp(big.NewInt(int64(most))) > 0 {
		return 0, api.ErrRange
	}
	return int(n.Int64()), api.OK
}

func (r *reading) text(most int) (string, api.Errno) {
	n, err := r.numTo(count(most))
	if err != api.OK {
		return "", err
	}
	if n > uint64(len(r.b)) {
		return "", api.ErrShort
	}
	s := string(r.b[:n])
	r.b = r.b[n:]
	return s, api.OK
}

func (r *reading) ints(most, least, greatest int) ([]int, api.Errno) {
	n, err := r.numTo(count(most))
	if err != api.OK {
		return nil, err
	}
	var l []int
	for range n {
		x, err := r.int(least, greatest)
		if err != api.OK {
			return nil, err
		}
		l = append(l, x)
	}
	return l, api.OK
}

func (r *reading) byte() (byte, api.Errno) {
	if len(r.b) == 0 {
		return 0, api.ErrShort
	}
	c := r.b[0]
	r.b = r.b[1:]
	return c, api.OK
}

func (r *reading) flag() (bool, api.Errno) {
	c, err := r.byte()
	if err == api.OK && c > 1 {
		return false, api.ErrBad
	}
	return c == 1, err
}

// left is how many bytes a Source must have left behind a call.
func (r *reading) left(err api.Errno) int {
	if err != api.OK {
		return 0
	}
	return len(r.b)
}

// asked is what is asked of a call.
type asked struct {
	kind        int
	num         uint64
	count       int
	least, most int
}

const kinds = 6

// step does one call to both, and tells the error.
func step(t *testing.T, s *Source, r *reading, a asked) api.Errno {
	t.Helper()
	var err api.Errno
	switch a.kind {
	case 0:
		want, e := r.numTo(new(big.Int).SetUint64(a.num))
		err = e
		tells(t, "Num", s, s.Num(a.num), want, err, r.left(err))
	case 1:
		want, e := r.int(a.least, a.most)
		err = e
		tells(t, "Int", s, s.Int(a.least, a.most), want, err, r.left(err))
	case 2:
		want, e := r.text(a.count)
		err = e
		tells(t, "Text", s, s.Text(a.count), want, err, r.left(err))
	case 3:
		want, e := r.flag()
		err = e
		tells(t, "Flag", s, s.Flag(), want, err, r.left(err))
	case 4:
		want, e := r.ints(a.count, a.least, a.most)
		err = e
		tellsInts(t, "Ints", s, s.Ints(a.count, a.least, a.most), want, err, r.left(err))
	case 5:
		want, e := r.byte()
		err = e
		tells(t, "Byte", s, s.Byte(), want, err, r.left(err))
	}
	return err
}

// P7.2: one call of all bytes of up to two, and of all of up to five of those at
// which something turns.
func TestAllShortBytes(t *testing.T) {
	var every []byte
	for c := range 256 {
		every = append(every, byte(c))
	}
	look := func(b []byte) {
		for kind := range kinds {
			step(t, Read(b), &reading{b}, asked{kind, largest, highest, lowest, highest})
			step(t, Read(b), &reading{b}, asked{kind, 129, 2, -1, 64})
		}
		if t.Failed() {
			t.Fatalf("of %v", b)
		}
	}
	allOf(every, 2, nil, look)
	allOf([]byte{0, 1, 2, 127, 128, 129, 255}, 5, nil, look)
}

// allOf does look to b with each list of up to so many of the bytes behind.
func allOf(of []byte, most int, b []byte, look func([]byte)) {
	look(b)
	if most == 0 {
		return
	}
	for _, c := range of {
		allOf(of, most-1, append(slices.Clone(b), c), look)
	}
}

// P7.3: what can be got whole is written one way alone: of the same bytes.
func TestGotIsPutTheSame(t *testing.T) {
	look := func(b []byte) {
		same := func(what string, s *Source, again []byte) {
			if s.End() == api.OK {
				written(t, what, again, b)
			}
		}
		s := Read(b)
		same("Num", s, Num(nil, s.Num(largest)))
		s = Read(b)
		same("Int", s, Int(nil, s.Int(lowest, highest)))
		s = Read(b)
		same("Text", s, Text(nil, s.Text(highest)))
		s = Read(b)
		same("Flag", s, Flag(nil, s.Flag()))
		s = Read(b)
		same("Ints", s, Ints(nil, s.Ints(highest, lowest, highest)))
	}
	allOf([]byte{0, 1, 2, 3, 127, 128, 129, 254, 255}, 5, nil, look)
}

// drawnNum is of any length, and often at an end of one.
func drawnNum(r *rand.Rand) uint64 {
	n := r.Uint64() >> r.Intn(64)
	if r.Intn(2) == 0 {
		n = 1<<r.Intn(64) + uint64(r.Intn(3)) - 1
	}
	return n
}

func drawnInt(r *rand.Rand) int {
	n := int(drawnNum(r) >> 1)
	if r.Intn(2) == 0 {
		return -n - 1
	}
	return n
}

// drawnCount is small, but at times at int's ends.
func drawnCount(r *rand.Rand) int {
	switch r.Intn(8) {
	case 0:
		return lowest
	case 1:
		return highest
	}
	return r.Intn(9) - 2
}

func drawnAsked(r *rand.Rand) asked {
	a := asked{r.Intn(kinds), drawnNum(r), drawnCount(r), lowest, highest}
	if r.Intn(3) == 0 {
		a.least, a.most = drawnInt(r), drawnInt(r)
	}
	return a
}

func drawnBytes(r *rand.Rand, most int) []byte {
	b := make([]byte, r.Intn(most+1))
	for i := range b {
		b[i] = byte(r.Intn(256))
		if r.Intn(2) == 0 {
			b[i] = []byte{0, 1, 2, 3, 127, 128, 129, 255}[r.Intn(8)]
		}
	}
	return b
}

// P7.2, P1: several calls of drawn bytes, till behind the first error.
func TestDrawnBytes(t *testing.T) {
	for seed := range int64(20000) {
		r := rand.New(rand.NewSource(seed))
		b := drawnBytes(r, 40)
		s, plain := Read(b), &reading{b}
		err := api.OK
		for range 12 {
			if err != api.OK {
				break
			}
			err = step(t, s, plain, drawnAsked(r))
		}
		if err != api.OK {
			nothing(t, s, err)
		}
		if t.Failed() {
			t.Fatalf("seed %d: %v", seed, b)
		}
	}
}

func drawnInts(r *rand.Rand) []int {
	l := make([]int, r.Intn(6))
	for i := range l {
		l[i] = drawnInt(r)
	}
	return l
}

// P7.1, P7.3: what was put, with bytes that a library of Go's writes the same
// way, is got again in the same order, with nothing left.
func TestPutIsGotAgain(t *testing.T) {
	for seed := range int64(3000) {
		r := rand.New(rand.NewSource(seed))
		var b, want []byte
		var gets []func(s *Source) bool
		for range r.Intn(12) {
			switch r.Intn(5) {
			case 0:
				n := drawnNum(r)
				b, want = Num(b, n), binary.AppendUvarint(want, n)
				gets = append(gets, func(s *Source) bool { return s.Num(n) == n })
			case 1:
				n := drawnInt(r)
				b, want = Int(b, n), binary.AppendVarint(want, int64(n))
				gets = append(gets, func(s *Source) bool { return s.Int(n, n) == n })
			case 2:
				x := drawnBytes(r, 200)
				b, want = Text(b, string(x)), append(binary.AppendUvarint(want, uint64(len(x))), x...)
				gets = append(gets, func(s *Source) bool { return s.Text(len(x)) == string(x) })
			case 3:
				f := r.Intn(2) == 1
				b, want = Flag(b, f), append(want, map[bool]byte{true: 1}[f])
				gets = append(gets, func(s *Source) bool { return s.Flag() == f })
			case 4:
				l := drawnInts(r)
				b, want = Ints(b, l), binary.AppendUvarint(want, uint64(len(l)))
				for _, n := range l {
					want = binary.AppendVarint(want, int64(n))
				}
				gets = append(gets, func(s *Source) bool { return slices.Equal(s.Ints(len(l), lowest, highest), l) })
			}
		}
		written(t, "put", b, want)
		s := Read(b)
		for i, got := range gets {
			if !got(s) {
				t.Errorf("value %d is another one", i)
			}
		}
		stands(t, "behind all", s, api.OK, 0)
		if t.Failed() {
			t.Fatalf("seed %d", seed)
		}
	}
}

// P7.3: two values have the same bytes just if they are the same.
func TestBytesAreTheSameJustOfTheSame(t *testing.T) {
	nums := []uint64{0, 1, 2, 63, 64, 127, 128, 129, 255, 256, 300, 1 << 14, 1<<63 - 1, 1 << 63, largest - 1, largest}
	pairs(t, "Num", nums, func(n uint64) []byte { return Num(nil, n) }, func(a, b uint64) bool { return a == b })
	ints := []int{0, 1, -1, 2, -2, 63, -63, 64, -64, 65, -65, 150, highest, highest - 1, lowest, lowest + 1}
	pairs(t, "Int", ints, func(n int) []byte { return Int(nil, n) }, func(a, b int) bool { return a == b })
	texts := []string{"", "\x00", "\x00\x00", "a", "b", "ab", "ba", "\x01a", "\xff", "\ufffd", "\xc3"}
	pairs(t, "Text", texts, func(s string) []byte { return Text(nil, s) }, func(a, b string) bool { return a == b })
	flags := []bool{false, true}
	pairs(t, "Flag", flags, func(f bool) []byte { return Flag(nil, f) }, func(a, b bool) bool { return a == b })
	lists := [][]int{nil, {}, {0}, {0, 0}, {1}, {-1}, {1, -1}, {-1, 1}, {64}, {0, 1}, {1, 0}, {lowest}, {highest}}
	pairs(t, "Ints", lists, func(l []int) []byte { return Ints(nil, l) }, slices.Equal[[]int])
}

// pairs holds the bytes of each two values against each other.
func pairs[T any](t *testing.T, what string, values []T, put func(T) []byte, same func(a, b T) bool) {
	t.Helper()
	for _, a := range values {
		for _, b := range values {
			if got := bytes.Equal(put(a), put(b)); got != same(a, b) {
				t.Errorf("%s of %v and %v: the same bytes %v", what, a, b, got)
			}
		}
	}
}
