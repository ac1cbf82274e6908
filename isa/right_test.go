package isa

import (
	"bytes"
	"encoding/binary"
	"fmt"
	"math/rand"
	"regexp"
	"slices"
	"strings"
	"testing"

	"wherry/api"
)

// The tests of this file hold all calls against plain answers, by drawn programs,
// bytes and texts, the same ones each time. A call that panicked there would fail
// them too (P1).

// span is the least and the greatest number that may be; in a program of n
// instructions -9 as the greatest is n.
type span struct{ least, most int }

// spans are those of an operation's A, B and C, by the chapter's list; of another
// number none.
func spans(op int) []span {
	nothing, register, object, place := span{0, 0}, span{0, 7}, span{0, 3}, span{0, -9}
	switch op {
	case 0, 9, 10, 12:
		return []span{nothing, nothing, nothing}
	case 1:
		return []span{register, {-1099511627776, 1099511627776}, nothing}
	case 2, 3, 4:
		return []span{register, register, nothing}
	case 5:
		return []span{register, register, register}
	case 6:
		return []span{place, nothing, nothing}
	case 7, 8:
		return []span{register, place, nothing}
	case 11:
		return []span{register, nothing, nothing}
	case 13:
		return []span{{0, 7}, {1, 65536}, register}
	case 14:
		return []span{register, nothing, register}
	case 15, 16, 18, 19, 20, 21:
		return []span{object, nothing, nothing}
	case 17:
		return []span{object, object, nothing}
	case 22:
		return []span{{1, 1000}, nothing, nothing}
	case 23, 24:
		return []span{{0, 1000}, nothing, register}
	case 25, 26:
		return []span{nothing, nothing, register}
	}
	return nil
}

// within tells a span's ends in a program of n instructions.
func (s span) within(n int) (int, int) {
	if s.most == -9 {
		return 0, n
	}
	return s.least, s.most
}

func values(in api.Instr) []int { return []int{in.A, in.B, in.C} }

func plainGood(p api.Program, i int) bool {
	if i < 0 || i >= len(p) {
		return false
	}
	l := spans(p[i].Op)
	for k, s := range l {
		least, most := s.within(len(p))
		if v := values(p[i])[k]; v < least || v > most {
			return false
		}
	}
	return l != nil
}

func plainWhole(p api.Program) bool {
	for i := range p {
		if !plainGood(p, i) {
			return false
		}
	}
	return len(p) <= 64
}

// plainBytes is Bytes, by a library of Go's that writes numbers the same way.
func plainBytes(p api.Program) []byte {
	if !plainWhole(p) {
		return nil
	}
	b := binary.AppendUvarint(nil, uint64(len(p)))
	for _, in := range p {
		b = append(b, byte(in.Op))
		for k, s := range spans(in.Op) {
			if s != (span{0, 0}) {
				b = binary.AppendVarint(b, int64(values(in)[k]))
			}
		}
	}
	return b
}

// plainParse reads numbers whichever way they are written, and then asks whether
// these are the bytes.
func plainParse(b []byte) (api.Program, api.Errno) {
	n, size := binary.Uvarint(b)
	if size <= 0 || n > 64 {
		return nil, api.ErrBad
	}
	var p api.Program
	rest := b[size:]
	for range n {
		if len(rest) == 0 {
			return nil, api.ErrBad
		}
		in := api.Instr{Op: int(rest[0])}
		rest = rest[1:]
		for k, s := range spans(in.Op) {
			if s == (span{0, 0}) {
				continue
			}
			v, size := binary.Varint(rest)
			if size <= 0 {
				return nil, api.ErrBad
			}
			*[]*int{&in.A, &in.B, &in.C}[k] = int(v)
			rest = rest[size:]
		}
		p = append(p, in)
	}
	if !plainWhole(p) || !bytes.Equal(plainBytes(p), b) {
		return nil, api.ErrBad
	}
	return p, api.OK
}

// plainNames are the names in the order of their numbers.
var plainNames = strings.Fields("nop set add sub copy less jump zero loop enter leave exit yield spawn join lock unlock" +
	" wait signal cast down up sleep read write self time")

func plainPrint(p api.Program) string {
	if !plainWhole(p) {
		return ""
	}
	s := ""
	for _, in := range p {
		s += plainNames[in.Op]
		for k, x := range spans(in.Op) {
			if x != (span{0, 0}) {
				s += fmt.Sprintf(" %d", values(in)[k])
			}
		}
		s += "\n"
	}
	return s
}

var (
	lineOfNothing = regexp.MustCompile(`^( *|#(?s:.*))$`)
	lineOfWords   = regexp.MustCompile(`^ *([a-z]+)(( +-?[0-9]{1,14})*) *$`)
)

// plainScan cuts lines by patterns.
func plainScan(s string) (api.Program, int, api.Errno) {
	if len(s) > 4096 {
		return nil, 0, api.ErrLong
	}
	var p api.Program
	var at []int
	for i, line := range strings.Split(s, "\n") {
		if lineOfNothing.MatchString(line) {
			continue
		}
		found := lineOfWords.FindStringSubmatch(line)
		if found == nil {
			return nil, i + 1, api.ErrLine
		}
		in := api.Instr{Op: slices.Index(plainNames, found[1])}
		words := strings.Fields(found[2])
		for k, x := range spans(in.Op) {
			if x == (span{0, 0}) {
				continue
			}
			if len(words) == 0 {
				return nil, i + 1, api.ErrLine
			}
			fmt.Sscanf(words[0], "%d", []*int{&in.A, &in.B, &in.C}[k])
			words = words[1:]
		}
		if in.Op < 0 || len(words) > 0 {
			return nil, i + 1, api.ErrLine
		}
		p, at = append(p, in), append(at, i+1)
	}
	for i := range p {
		if !plainGood(p, i) {
			return nil, at[i], api.ErrBad
		}
	}
	if len(p) > 64 {
		return nil, 0, api.ErrLong
	}
	return p, 0, api.OK
}

// drawnIn is a number of a span, often at its ends.
func drawnIn(r *rand.Rand, s span, n int) int {
	least, most := s.within(n)
	switch r.Intn(4) {
	case 0:
		return least
	case 1:
		return most
	}
	return least + r.Intn(most-least+1)
}

// drawn is a program of n instructions that is Whole, if it is not too long.
func drawn(r *rand.Rand, n int) api.Program {
	p := make(api.Program, n)
	for i := range p {
		in := &p[i]
		in.Op = r.Intn(27)
		for k, s := range spans(in.Op) {
			*[]*int{&in.A, &in.B, &in.C}[k] = drawnIn(r, s, n)
		}
	}
	return p
}

// drawnLength is mostly small, and now and then at the end of what may be.
func drawnLength(r *rand.Rand) int {
	if r.Intn(6) == 0 {
		return 62 + r.Intn(5)
	}
	return r.Intn(9)
}

// spoilt has one number that is another one.
func spoilt(r *rand.Rand, p api.Program) api.Program {
	p = slices.Clone(p)
	if len(p) == 0 {
		return p
	}
	in := &p[r.Intn(len(p))]
	number := []*int{&in.Op, &in.A, &in.B, &in.C}[r.Intn(4)]
	switch r.Intn(3) {
	case 0:
		*number++
	case 1:
		*number--
	default:
		*number = []int{lowest, -far - 1, -1, 0, 1, 7, 8, 26, 27, 1000, 1001, 65537, far + 1, highest}[r.Intn(14)]
	}
	return p
}

// looks holds all calls of a program against the plain answers.
func looks(t *testing.T, p api.Program) {
	t.Helper()
	for i := -1; i <= len(p); i++ {
		if got, want := Good(p, i), plainGood(p, i); got != want {
			t.Errorf("Good(%v, %d): %v, want %v", p, i, got, want)
		}
	}
	if got, want := Whole(p), plainWhole(p); got != want {
		t.Errorf("Whole(%v): %v, want %v", p, got, want)
	}
	if got, want := Bytes(p), plainBytes(p); !bytes.Equal(got, want) {
		t.Errorf("Bytes(%v): %v, want %v", p, got, want)
	}
	if got, want := Print(p), plainPrint(p); got != want {
		t.Errorf("Print(%v): %q, want %q", p, got, want)
	}
}

// P12.2, P12.3, P12.4: drawn programs, and the same with one number spoilt.
func TestDrawnPrograms(t *testing.T) {
	r := rand.New(rand.NewSource(12))
	whole := 0
	for range 20000 {
		p := drawn(r, drawnLength(r))
		q := spoilt(r, p)
		looks(t, p)
		looks(t, q)
		if got, want := Same(p, q), fmt.Sprint(p) == fmt.Sprint(q); got != want {
			t.Errorf("Same(%v, %v): %v, want %v", p, q, got, want)
		}
		for _, one := range []api.Program{p, q} {
			if !Whole(one) {
				continue
			}
			whole++
			parsed(t, Bytes(one), one, api.OK)
			scanned(t, Print(one), one, 0, api.OK)
		}
		if t.Failed() {
			t.FailNow()
		}
	}
	if whole < 15000 {
		t.Errorf("only %d were Whole", whole)
	}
}

// readsAlike holds Parse against the plain answer, and, of what is a program, Bytes
// of that against b.
func readsAlike(t *testing.T, b []byte) bool {
	t.Helper()
	p, err := plainParse(b)
	parsed(t, b, p, err)
	if err == api.OK && !bytes.Equal(Bytes(p), b) {
		t.Errorf("Bytes of Parse(%v): %v", b, Bytes(p))
	}
	return err == api.OK
}

// P12.2, P12.4: all bytes of up to two, and all of up to five of those at which
// something turns.
func TestAllShortBytes(t *testing.T) {
	readsAlike(t, nil)
	for a := range 256 {
		readsAlike(t, []byte{byte(a)})
		for b := range 256 {
			readsAlike(t, []byte{byte(a), byte(b)})
			readsAlike(t, []byte{1, byte(a), byte(b)})
		}
	}
	some := []byte{0, 1, 2, 11, 13, 16, 27, 128, 255}
	var all func(b []byte, more int)
	all = func(b []byte, more int) {
		readsAlike(t, b)
		for _, c := range some {
			if more > 0 {
				all(append(slices.Clone(b), c), more-1)
			}
		}
	}
	all(nil, 5)
}

// changedBytes are b with a few of them changed, left out or put in.
func changedBytes(r *rand.Rand, b []byte) []byte {
	b = slices.Clone(b)
	for range 1 + r.Intn(2) {
		i := r.Intn(len(b) + 1)
		c := byte(r.Intn(256))
		if r.Intn(2) == 0 {
			c = []byte{0, 1, 2, 14, 16, 26, 27, 127, 128, 255}[r.Intn(10)]
		}
		switch {
		case r.Intn(3) == 0:
			b = slices.Insert(b, i, c)
		case i == len(b):
		case r.Intn(2) == 0:
			b[i] = c
		default:
			b = slices.Delete(b, i, i+1)
		}
	}
	return b
}

// P12.2, P12.4, P1
func TestDrawnBytes(t *testing.T) {
	r := rand.New(rand.NewSource(13))
	taken, left := 0, 0
	for range 60000 {
		b := changedBytes(r, plainBytes(drawn(r, min(drawnLength(r), 64))))
		was := slices.Clone(b)
		if readsAlike(t, b) {
			taken++
		} else {
			left++
		}
		if !bytes.Equal(b, was) {
			t.Errorf("Parse changed %v to %v", was, b)
		}
		if t.Failed() {
			t.FailNow()
		}
	}
	if taken < 5000 || left < 5000 {
		t.Errorf("%d were taken, %d left", taken, left)
	}
}

// drawnLine is one that says nothing, or an instruction, perhaps with other blanks,
// or what is not quite one.
func drawnLine(r *rand.Rand) string {
	switch r.Intn(10) {
	case 0:
		return []string{"", " ", "    ", "#", "# nop", "#exit", "##  "}[r.Intn(7)]
	case 1:
		return strings.Repeat(" ", r.Intn(3)) + strings.ReplaceAll(goodLine(r), " ", "   ") + strings.Repeat(" ", r.Intn(3))
	case 2:
		if r.Intn(8) > 0 {
			break
		}
		line := []byte(goodLine(r))
		odd := "-0123456789abz #\t\r\x00\xff+.,N"
		i := r.Intn(len(line) + 1)
		return string(slices.Insert(line, i, odd[r.Intn(len(odd))]))
	case 3:
		if r.Intn(8) > 0 {
			break
		}
		words := strings.Fields(goodLine(r))
		i := r.Intn(len(words) + 1)
		word := []string{"-", "-0", "0", "00", "8", "-1", "65536", "nop", "12345678901234", "123456789012345", "-00000000000001", "1099511627777"}[r.Intn(12)]
		if i < len(words) && r.Intn(3) > 0 {
			words[i] = word
		} else {
			words = slices.Insert(words, i, word)
		}
		return strings.Join(words, " ")
	}
	return goodLine(r)
}

// goodLine is a line of an instruction of a short program.
func goodLine(r *rand.Rand) string {
	line, _, _ := strings.Cut(plainPrint(drawn(r, 1+r.Intn(4))), "\n")
	return line
}

// drawnText is of a few lines, now and then of about as many as there may be
// instructions or bytes.
func drawnText(r *rand.Rand) string {
	n := r.Intn(12)
	switch r.Intn(10) {
	case 0:
		n = 60 + r.Intn(24)
	case 1:
		n = 380 + r.Intn(50)
	}
	l := make([]string, n)
	for i := range l {
		l[i] = drawnLine(r)
	}
	s := strings.Join(l, "\n")
	if r.Intn(2) == 0 {
		s += "\n"
	}
	if r.Intn(12) == 0 && len(s) < 4090 {
		s += "\n#" + strings.Repeat("x", 4092+r.Intn(5)-len(s))
	}
	return s
}

// P12.3, P1
func TestDrawnTexts(t *testing.T) {
	r := rand.New(rand.NewSource(14))
	seen := map[string]int{}
	for range 25000 {
		s := drawnText(r)
		p, line, err := plainScan(s)
		scanned(t, s, p, line, err)
		seen[fmt.Sprint(err, line > 0)]++
		if t.Failed() {
			t.FailNow()
		}
	}
	for _, kind := range []string{"ok false", "line true", "bad true", "long false"} {
		if seen[kind] < 300 {
			t.Errorf("%s: only %d times", kind, seen[kind])
		}
	}
	if len(seen) != 4 {
		t.Errorf("seen: %v", seen)
	}
}

// P12.3, P1: any bytes as a text.
func TestDrawnSigns(t *testing.T) {
	r := rand.New(rand.NewSource(15))
	const signs = "nop exit 0123 -#\n\n\n  up 0\n"
	for range 60000 {
		b := make([]byte, r.Intn(30))
		for i := range b {
			b[i] = signs[r.Intn(len(signs))]
			if r.Intn(40) == 0 {
				b[i] = byte(r.Intn(256))
			}
		}
		p, line, err := plainScan(string(b))
		scanned(t, string(b), p, line, err)
		if t.Failed() {
			t.FailNow()
		}
	}
}

// P12.3: all texts of up to five signs, behind an instruction's name or alone.
func TestAllShortTexts(t *testing.T) {
	var all func(s string, more int)
	all = func(s string, more int) {
		for _, ahead := range []string{"", "exit", "nop\nset 0"} {
			p, line, err := plainScan(ahead + s)
			scanned(t, ahead+s, p, line, err)
		}
		for _, c := range "\n #-07x" {
			if more > 0 {
				all(s+string(c), more-1)
			}
		}
	}
	all("", 5)
}
