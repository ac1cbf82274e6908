package event

import (
	"bytes"
	"math/big"
	"math/rand"
	"slices"
	"strconv"
	"testing"

	"wherry/api"
)

// The tests of this file hold all calls against plain answers, by drawn events and
// bytes, the same ones each time. A call that panicked there would fail them too
// (P1).

// plainGood is Good, kind by kind.
func plainGood(e api.Event) bool {
	id := func(n int) bool { return n >= 1 && n <= 1<<40 }
	value := func(n int) bool { return n >= 0 && n <= 1000 }
	empty := e.Context == api.Context{}
	c := e.Context
	switch e.Kind {
	case 1, 6, 7:
		return id(e.Act) && e.Thread == 0 && e.Value == 0 && empty
	case 2:
		return id(e.Act) && id(e.Thread) && e.Value == 0 &&
			c.Program >= 0 && c.Program < 8 && c.PC >= 0 && c.PC <= 64 && c.Depth >= 0 && c.Depth <= 8
	case 3:
		return id(e.Act) && id(e.Thread) && e.Value == 0 && empty
	case 4:
		return id(e.Act) && id(e.Thread) && value(e.Value) && empty
	case 5:
		return e.Act == 0 && e.Thread == 0 && value(e.Value) && empty
	}
	return false
}

// plainNum is a number's bytes, got by parting it by 128.
func plainNum(n *big.Int) []byte {
	var b []byte
	rest, part := new(big.Int).Set(n), new(big.Int)
	for {
		rest.QuoRem(rest, big.NewInt(128), part)
		if rest.Sign() == 0 {
			return append(b, byte(part.Int64()))
		}
		b = append(b, byte(part.Int64()+128))
	}
}

func plainInt(n int) []byte {
	x := new(big.Int).Mul(big.NewInt(int64(n)), big.NewInt(2))
	if n < 0 {
		x.Neg(x)
		x.Sub(x, big.NewInt(1))
	}
	return plainNum(x)
}

// plainBytes is Bytes, kind by kind.
func plainBytes(e api.Event) []byte {
	if !plainGood(e) {
		return nil
	}
	num := func(n int) []byte { return plainNum(big.NewInt(int64(n))) }
	b := append([]byte{byte(e.Kind)}, num(e.Act)...)
	switch e.Kind {
	case 2:
		b = slices.Concat(b, num(e.Thread), num(e.Context.Program), num(e.Context.PC), num(e.Context.Depth))
		for _, r := range e.Context.Regs {
			b = append(b, plainInt(r)...)
		}
	case 3:
		b = append(b, num(e.Thread)...)
	case 4:
		b = slices.Concat(b, num(e.Thread), num(e.Value))
	case 5:
		b = append(b, num(e.Value)...)
	}
	return b
}

// plainNext is the number at the begin of b, and the bytes behind it.
func plainNext(b []byte) (*big.Int, []byte, api.Errno) {
	size := 1 + slices.IndexFunc(b, func(c byte) bool { return c < 128 })
	if size == 0 && len(b) < 10 {
		return nil, nil, api.ErrShort
	}
	if size == 0 || size > 10 || size > 1 && b[size-1] == 0 {
		return nil, nil, api.ErrBad
	}
	n := new(big.Int)
	for i := size - 1; i >= 0; i-- {
		n.Add(n.Mul(n, big.NewInt(128)), big.NewInt(int64(b[i]%128)))
	}
	if n.BitLen() > 64 {
		return nil, nil, api.ErrBad
	}
	return n, b[size:], api.OK
}

// plainParse is Parse: all numbers, of any length, and then the one event of which
// these are the Bytes.
func plainParse(b []byte) (api.Event, int, api.Errno) {
	if len(b) == 0 {
		return api.Event{}, 0, api.ErrShort
	}
	// How many numbers and how many ints each kind has.
	counts := [][2]int{1: {1, 0}, 2: {5, 8}, 3: {2, 0}, 4: {3, 0}, 5: {2, 0}, 6: {1, 0}, 7: {1, 0}}
	kind := int(b[0])
	if kind == 0 || kind >= len(counts) {
		return api.Event{}, 0, api.ErrBad
	}
	rest := b[1:]
	var l []int
	great := false
	for i := range counts[kind][0] + counts[kind][1] {
		n, behind, err := plainNext(rest)
		if err != api.OK {
			return api.Event{}, 0, err
		}
		rest = behind
		if i < counts[kind][0] {
			great = great || n.Cmp(big.NewInt(1<<40)) > 0
		} else if n.Bit(0) == 1 {
			n.Neg(n.Add(n, big.NewInt(1))).Quo(n, big.NewInt(2))
		} else {
			n.Quo(n, big.NewInt(2))
		}
		l = append(l, int(n.Int64()))
	}
	if great {
		return api.Event{}, 0, api.ErrBad
	}
	e := api.Event{Kind: kind, Act: l[0]}
	switch kind {
	case 2:
		e.Thread = l[1]
		e.Context = api.Context{Program: l[2], PC: l[3], Depth: l[4], Regs: [8]int(l[5:])}
	case 3:
		e.Thread = l[1]
	case 4:
		e.Thread, e.Value = l[1], l[2]
	case 5:
		e.Value = l[1]
	}
	if !plainGood(e) {
		return api.Event{}, 0, api.ErrBad
	}
	return e, len(b) - len(rest), api.OK
}

// plainText is Text, name by name.
func plainText(e api.Event) string {
	var s string
	switch e.Kind {
	case 1:
		s = "grant"
	case 2:
		s = "preempted"
	case 3:
		s = "blocked"
	case 4:
		s = "unblocked"
	case 5:
		s = "demand"
	case 6:
		s = "idle"
	case 7:
		s = "recycle"
	}
	for _, n := range []int{e.Act, e.Thread, e.Value} {
		if n != 0 {
			s += " " + strconv.Itoa(n)
		}
	}
	return s
}

// drawnInt is any int, those near the ends and small ones more often.
func drawnInt(r *rand.Rand) int {
	switch r.Intn(6) {
	case 0:
		return lowest + r.Intn(3)
	case 1:
		return highest - r.Intn(3)
	case 2:
		return far - 2 + r.Intn(5)
	case 3:
		return r.Intn(2100) - 1050
	case 4:
		return r.Intn(20) - 10
	}
	return int(r.Uint64())
}

func drawnContext(r *rand.Rand) api.Context {
	c := api.Context{Program: r.Intn(8), PC: r.Intn(65), Depth: r.Intn(9)}
	for i := range c.Regs {
		c.Regs[i] = drawnInt(r)
	}
	return c
}

// drawnGood is an event that is Good.
func drawnGood(r *rand.Rand) api.Event {
	id := func() int {
		if r.Intn(2) == 0 {
			return 1 + r.Intn(200)
		}
		return 1 + r.Intn(1<<uint(1+r.Intn(40)))
	}
	value := func() int { return r.Intn(1001) * r.Intn(2) }
	e := api.Event{Kind: 1 + r.Intn(7), Act: id()}
	switch e.Kind {
	case 2:
		e.Thread, e.Context = id(), drawnContext(r)
	case 3:
		e.Thread = id()
	case 4:
		e.Thread, e.Value = id(), value()
	case 5:
		e.Act, e.Value = 0, value()
	}
	return e
}

// drawnAny is a Good event with up to two of its numbers changed.
func drawnAny(r *rand.Rand) api.Event {
	e := drawnGood(r)
	for range r.Intn(3) {
		switch n := drawnInt(r); r.Intn(8) {
		case 0:
			e.Kind = n
		case 1:
			e.Kind = r.Intn(10) - 1
		case 2:
			e.Act = n
		case 3:
			e.Thread = n
		case 4:
			e.Value = n
		case 5:
			e.Context.Program = n % 12
		case 6:
			e.Context.PC = n % 80
		case 7:
			e.Context.Depth = n % 12
		}
	}
	return e
}

func drawnRow(r *rand.Rand, count int, draw func(r *rand.Rand) api.Event) []api.Event {
	var l []api.Event
	for range count {
		l = append(l, draw(r))
	}
	return l
}

// drawnNum is a number's bytes, any that code puts, those near 2^40 and near the ends
// more often.
func drawnNum(r *rand.Rand) []byte {
	n := new(big.Int).SetUint64(uint64(drawnInt(r)))
	return plainNum(n.Rsh(n, uint(r.Intn(3)*12)))
}

// drawnBytes are bytes that are nearly an event's, or any.
func drawnBytes(r *rand.Rand) []byte {
	var b []byte
	if r.Intn(3) == 0 {
		b = []byte{byte(r.Intn(9))}
		for range r.Intn(40) {
			b = append(b, []byte{0, 1, 2, 127, 128, 129, 255, byte(r.Intn(256))}[r.Intn(8)])
		}
		return b
	}
	b = Bytes(drawnGood(r))
	for range r.Intn(3) {
		at := r.Intn(len(b))
		switch r.Intn(6) {
		case 0:
			b = b[:max(at, 1)]
		case 1:
			b[at] = byte(r.Intn(256))
		case 2:
			b[at] ^= 1 << r.Intn(8)
		case 3:
			b = slices.Insert(b, at, byte(r.Intn(256)))
		case 4:
			b = append(b, byte(r.Intn(256)))
		case 5:
			b = slices.Insert(b, max(at, 1), drawnNum(r)...)
		}
	}
	return b
}

// P14.1, P14.2
func TestDrawnEvents(t *testing.T) {
	r := rand.New(rand.NewSource(14))
	for range 60000 {
		e := drawnAny(r)
		if Good(e) != plainGood(e) {
			t.Fatalf("Good(%v): %v", e, Good(e))
		}
		if got, want := Bytes(e), plainBytes(e); !bytes.Equal(got, want) {
			t.Fatalf("Bytes(%v): %v, want %v", e, got, want)
		}
		if got, want := Text(e), plainText(e); got != want {
			t.Fatalf("Text(%v): %q, want %q", e, got, want)
		}
		if b := Bytes(e); len(b) > 0 {
			if got, n, err := Parse(append(b, byte(r.Intn(256)))); got != e || n != len(b) || err != api.OK {
				t.Fatalf("Parse(%v): %v, %d, %v, want %v", b, got, n, err, e)
			}
		}
	}
}

// P14.2
func TestDrawnBytes(t *testing.T) {
	r := rand.New(rand.NewSource(15))
	told := map[api.Errno]int{}
	for range 100000 {
		b := drawnBytes(r)
		kept := slices.Clone(b)
		got, n, err := Parse(b)
		want, size, no := plainParse(b)
		if got != want || n != size || err != no {
			t.Fatalf("Parse(%v): %v, %d, %v, want %v, %d, %v", b, got, n, err, want, size, no)
		}
		if !bytes.Equal(b, kept) {
			t.Fatalf("Parse(%v) changed what it was given: %v", kept, b)
		}
		if err == api.OK && !bytes.Equal(Bytes(got), b[:n]) {
			t.Fatalf("Bytes(%v): %v, want %v", got, Bytes(got), b[:n])
		}
		told[err]++
	}
	for _, err := range []api.Errno{api.OK, api.ErrShort, api.ErrBad} {
		if told[err] < 5000 {
			t.Errorf("%v was told %d times only", err, told[err])
		}
	}
}

// P14.2: up to three bytes, of all that there are but those in the middle, which
// are numbers like their neighbours.
func TestShortBytes(t *testing.T) {
	for n := range 1 << 24 {
		b := []byte{byte(n), byte(n >> 8), byte(n >> 16)}
		if b[0] > 8 && b[0] < 250 || b[1] > 3 && b[1] < 126 || b[2] > 3 && b[2] < 126 {
			continue
		}
		for i := range 4 {
			got, size, err := Parse(b[:i])
			if want, length, no := plainParse(b[:i]); got != want || size != length || err != no {
				t.Fatalf("Parse(%v): %v, %d, %v, want %v, %d, %v", b[:i], got, size, err, want, length, no)
			}
		}
	}
}

// P14.2, P14.4: a row is read again, and other bytes of it are another row's, or
// none's.
func TestDrawnRows(t *testing.T) {
	r := rand.New(rand.NewSource(16))
	for range 1500 {
		l := drawnRow(r, r.Intn(30), drawnGood)
		b := All(l)
		want := []byte{byte(len(l))}
		for _, e := range l {
			want = append(want, plainBytes(e)...)
		}
		if !bytes.Equal(b, want) {
			t.Fatalf("All(%v): %v, want %v", l, b, want)
		}
		if got, err := Read(b); !slices.Equal(got, l) || err != api.OK {
			t.Fatalf("Read(%v): %v, %v, want %v", b, got, err, l)
		}
		for range 20 {
			changed := slices.Clone(b)
			changed[r.Intn(len(b))] ^= 1 << r.Intn(8)
			got, err := Read(changed)
			if err == api.OK && !bytes.Equal(All(got), changed) || err != api.OK && (err != api.ErrBad || len(got) > 0) {
				t.Fatalf("Read(%v): %v, %v", changed, got, err)
			}
		}
		if len(l) > 0 {
			i := r.Intn(len(l))
			l[i] = drawnAny(r)
			if got := All(l); (len(got) > 0) != plainGood(l[i]) {
				t.Fatalf("All(%v): %v", l, got)
			}
		}
	}
}

// P14.4: as long a row as there is, of events of any length.
func TestLongRows(t *testing.T) {
	r := rand.New(rand.NewSource(17))
	for range 5 {
		l := drawnRow(r, 1024, drawnGood)
		b := All(l)
		if got, err := Read(b); !slices.Equal(got, l) || err != api.OK {
			t.Fatalf("Read: %d, %v", len(got), err)
		}
		if !Same(l, slices.Clone(l)) {
			t.Errorf("Same of a copy")
		}
		// The same, one behind the other, by Parse.
		rest := b[2:]
		for i, e := range l {
			got, n, err := Parse(rest)
			if got != e || err != api.OK {
				t.Fatalf("Parse at %d: %v, %v, want %v", i, got, err, e)
			}
			rest = rest[n:]
		}
		if len(rest) > 0 {
			t.Errorf("%d bytes are left", len(rest))
		}
		if got := All(append(l, l[0])); len(got) > 0 {
			t.Errorf("All of 1025: %d bytes", len(got))
		}
	}
}

// plainBatch goes one by one.
func plainBatch(l []api.Event, most int) int {
	n := 0
	for n < len(l) && (n == 0 || n < most) {
		n++
		if l[n-1].Kind == 2 {
			break
		}
	}
	return n
}

// P14.3, P14.4: Batches, one behind the other, are all.
func TestDrawnBatches(t *testing.T) {
	r := rand.New(rand.NewSource(18))
	for range 3000 {
		l := drawnRow(r, r.Intn(60), drawnAny)
		kept := slices.Clone(l)
		var told []api.Event
		for rest := l; len(rest) > 0; {
			most := r.Intn(12) - 2
			first, others := Batch(rest, most)
			if len(first) != plainBatch(rest, most) || !slices.Equal(slices.Concat(first, others), rest) {
				t.Fatalf("Batch(%v, %d): %v, %v", rest, most, first, others)
			}
			told, rest = append(told, first...), others
		}
		if !slices.Equal(told, l) || !slices.Equal(l, kept) {
			t.Fatalf("Batches of %v: %v", l, told)
		}
	}
}
