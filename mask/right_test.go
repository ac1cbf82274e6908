package mask

import (
	"math/rand"
	"regexp"
	"slices"
	"strconv"
	"strings"
	"testing"
)

// The tests of this file hold every call against a list of members, over sets
// of all kinds and over numbers at all ends; a call that panicked there would
// fail them too (P1).

// someSets are sets with runs and gaps of all lengths, the same ones each time.
func someSets() []Mask {
	source := rand.New(rand.NewSource(2))
	l := []Mask{0, all, 1, 1 << 63, 1<<63 | 1, 0x5555555555555555, 0xaaaaaaaaaaaaaaaa}
	for range 300 {
		thin := Mask(source.Uint64())
		thick := Mask(source.Uint64())
		l = append(l, thin, thin&thick, thin|thick, thin<<source.Intn(64), thick>>source.Intn(64))
	}
	return l
}

// someNumbers are places, their neighbours, and the ends of int.
func someNumbers() []int {
	l := outside()
	for i := range places {
		l = append(l, i)
	}
	return l
}

// listed are the members, found bit by bit.
func listed(m Mask) []int {
	var l []int
	for i := range 64 {
		if uint64(m)>>i&1 == 1 {
			l = append(l, i)
		}
	}
	return l
}

func sum(l []int) Mask {
	var m Mask
	for _, i := range l {
		m |= 1 << i
	}
	return m
}

func chosen(l []int, want func(int) bool) []int {
	return slices.DeleteFunc(slices.Clone(l), func(i int) bool { return !want(i) })
}

func firstOf(l []int) int {
	if len(l) == 0 {
		return -1
	}
	return l[0]
}

func TestRightSets(t *testing.T) {
	for _, m := range someSets() {
		l := listed(m)
		if got := slices.Collect(m.All()); !slices.Equal(got, l) {
			t.Fatalf("All of %b: %v", m, got)
		}
		if got := Of(l...); got != m {
			t.Fatalf("Of(%v): %b", l, got)
		}
		if m.Len() != len(l) || m.First() != firstOf(l) {
			t.Fatalf("of %b: Len %d, First %d", m, m.Len(), m.First())
		}
		if slices.Reverse(l); m.Last() != firstOf(l) {
			t.Fatalf("of %b: Last %d", m, m.Last())
		}
	}
}

func TestRightMembers(t *testing.T) {
	for _, m := range someSets() {
		l := listed(m)
		for _, i := range someNumbers() {
			with := l
			if 0 <= i && i < 64 {
				with = append(slices.Clone(l), i)
			}
			nth := -1
			if 0 <= i && i < len(l) {
				nth = l[i]
			}
			got := []int{m.Next(i), m.Nth(i), m.Rank(i)}
			want := []int{
				firstOf(chosen(l, func(j int) bool { return j > i })),
				nth,
				len(chosen(l, func(j int) bool { return j < i })),
			}
			if !slices.Equal(got, want) {
				t.Fatalf("Next, Nth, Rank(%d) of %b: %v, want %v", i, m, got, want)
			}
			if m.Has(i) != slices.Contains(l, i) || m.With(i) != sum(with) ||
				m.Without(i) != sum(chosen(l, func(j int) bool { return j != i })) {
				t.Fatalf("Has, With, Without(%d) of %b: %v, %b, %b", i, m, m.Has(i), m.With(i), m.Without(i))
			}
		}
	}
}

func TestRightTurn(t *testing.T) {
	for _, m := range someSets()[:200] {
		for _, n := range someNumbers() {
			for _, by := range []int{least, -65, -64, -1, 0, 1, 5, 63, 64, 1000, most} {
				var want Mask
				size := min(n, 64)
				for _, i := range listed(m) {
					if i < size {
						want |= 1 << stepped(i, by, size)
					}
				}
				if got := m.Turn(n, by); got != want {
					t.Fatalf("Turn(%d, %d) of %b: %b, want %b", n, by, m, got, want)
				}
			}
		}
	}
}

// stepped is the place by further on than i, round a ring of n.
func stepped(i, by, n int) int {
	rest := by % n
	for ; rest > 0; rest-- {
		if i++; i == n {
			i = 0
		}
	}
	for ; rest < 0; rest++ {
		if i--; i < 0 {
			i = n - 1
		}
	}
	return i
}

func TestRightBelow(t *testing.T) {
	for _, n := range someNumbers() {
		want := chosen(listed(all), func(i int) bool { return i < n })
		if got := listed(Below(n)); !slices.Equal(got, want) {
			t.Fatalf("Below(%d): %v, want %v", n, got, want)
		}
	}
}

// P2.3
func TestTextAndParseLeadBack(t *testing.T) {
	texts := map[string]Mask{}
	for _, m := range someSets() {
		s := m.Text()
		if other, met := texts[s]; met && other != m {
			t.Fatalf("%q is the text of %b and of %b", s, other, m)
		}
		texts[s] = m
		if got, ok := Parse(s); got != m || !ok {
			t.Fatalf("Parse(%q): %b, %v, want %b", s, got, ok, m)
		}
		if got, ok := plainParse(s); got != m || !ok {
			t.Fatalf("the text of %b is %q", m, s)
		}
	}
}

var partShape = regexp.MustCompile(`\A(0|[1-9][0-9]?)(?:-([1-9][0-9]?))?\z`)

// plainParse says by the chapter's words which texts are those of sets.
func plainParse(s string) (Mask, bool) {
	if s == "-" {
		return 0, true
	}
	var m Mask
	free := 0
	for _, p := range strings.Split(s, ",") {
		found := partShape.FindStringSubmatch(p)
		if found == nil {
			return 0, false
		}
		from, _ := strconv.Atoi(found[1])
		to := from
		if found[2] != "" {
			if to, _ = strconv.Atoi(found[2]); to <= from {
				return 0, false
			}
		}
		if from < free || to > 63 {
			return 0, false
		}
		// One place must stay free, or the parts could be joined.
		free = to + 2
		for i := from; i <= to; i++ {
			m |= 1 << i
		}
	}
	return m, true
}

// Every text of up to six of these bytes.
func TestRightParse(t *testing.T) {
	const letters = "0136,-"
	var try func(s string, room int)
	try = func(s string, room int) {
		got, ok := Parse(s)
		want, wantOK := plainParse(s)
		if got != want || ok != wantOK {
			t.Fatalf("Parse(%q): %b, %v, want %b, %v", s, got, ok, want, wantOK)
		}
		if room == 0 {
			return
		}
		for _, r := range letters {
			try(s+string(r), room-1)
		}
	}
	try("", 6)
}

// One byte of a true text is put, left out or changed.
func TestRightParseNearTexts(t *testing.T) {
	const letters = "0123456789,-+ \n\x00x"
	for _, m := range someSets()[:60] {
		s := m.Text()
		for at := range len(s) {
			l := []string{s[:at] + s[at+1:]}
			for _, r := range letters {
				l = append(l, s[:at]+string(r)+s[at:], s[:at]+string(r)+s[at+1:])
			}
			for _, x := range l {
				got, ok := Parse(x)
				want, wantOK := plainParse(x)
				if got != want || ok != wantOK {
					t.Fatalf("Parse(%q): %b, %v, want %b, %v", x, got, ok, want, wantOK)
				}
			}
		}
	}
}

// Texts far longer than any set's end too.
func TestParseLong(t *testing.T) {
	for _, s := range []string{
		strings.Repeat("1,", 1<<20),
		strings.Repeat("1,", 1<<20) + "1",
		strings.Repeat("0", 1<<20),
		strings.Repeat("9", 1<<20),
		strings.Repeat("-", 1<<20),
		strings.Repeat(",", 1<<20),
		"1-" + strings.Repeat("0", 1<<20) + "3",
	} {
		if got, ok := Parse(s); got != 0 || ok {
			t.Errorf("Parse of %d bytes: %b, %v", len(s), got, ok)
		}
	}
}
