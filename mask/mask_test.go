package mask

import (
	"math"
	"slices"
	"testing"
)

const (
	least = math.MinInt
	most  = math.MaxInt
	all   = Mask(math.MaxUint64)
)

// outside are numbers that no set has.
func outside() []int {
	return []int{-1, -2, -63, -64, least, least + 1, 64, 65, 127, 128, most - 1, most}
}

// P2.1
func TestOf(t *testing.T) {
	for _, c := range []struct {
		l    []int
		want Mask
	}{
		{nil, 0},
		{[]int{}, 0},
		{[]int{0}, 1},
		{[]int{63}, 1 << 63},
		{[]int{1, 2, 3, 7}, 0b10001110},
		{[]int{7, 3, 1, 2}, 0b10001110},
		{[]int{3, 3, 3}, 0b1000},
		{[]int{0, 63}, 1<<63 | 1},
		{[]int{-1, 0, 64, 5}, 0b100001},
		{outside(), 0},
	} {
		before := slices.Clone(c.l)
		if got := Of(c.l...); got != c.want {
			t.Errorf("Of(%v): %b, want %b", c.l, got, c.want)
		}
		if !slices.Equal(c.l, before) {
			t.Errorf("Of(%v) changed its list to %v", before, c.l)
		}
	}
}

// P2.1
func TestHas(t *testing.T) {
	m := Of(0, 5, 63)
	for i := range places {
		if got, want := m.Has(i), i == 0 || i == 5 || i == 63; got != want {
			t.Errorf("Has(%d): %v, want %v", i, got, want)
		}
	}
	for _, i := range outside() {
		if all.Has(i) {
			t.Errorf("Has(%d) of all: true", i)
		}
		if Mask(0).Has(i) {
			t.Errorf("Has(%d) of none: true", i)
		}
	}
}

// P2.1
func TestWithAndWithout(t *testing.T) {
	for _, c := range []struct {
		name      string
		got, want Mask
	}{
		{"With(0) of none", Mask(0).With(0), 1},
		{"With(63) of none", Mask(0).With(63), 1 << 63},
		{"With(3) of 3", Of(3).With(3), 1 << 3},
		{"With(4) of 3", Of(3).With(4), 0b11000},
		{"With(63) of all", all.With(63), all},
		{"Without(0) of all", all.Without(0), all - 1},
		{"Without(63) of all", all.Without(63), all >> 1},
		{"Without(3) of 3", Of(3).Without(3), 0},
		{"Without(4) of 3", Of(3).Without(4), 1 << 3},
		{"Without(0) of none", Mask(0).Without(0), 0},
	} {
		if c.got != c.want {
			t.Errorf("%s: %b, want %b", c.name, c.got, c.want)
		}
	}
	for _, i := range outside() {
		for _, m := range []Mask{0, all, Of(0, 5, 63)} {
			if got := m.With(i); got != m {
				t.Errorf("With(%d) of %b: %b", i, m, got)
			}
			if got := m.Without(i); got != m {
				t.Errorf("Without(%d) of %b: %b", i, m, got)
			}
		}
	}
}

// P2.1
func TestLenFirstLast(t *testing.T) {
	for _, c := range []struct {
		m                Mask
		len, first, last int
	}{
		{0, 0, -1, -1},
		{Of(0), 1, 0, 0},
		{Of(63), 1, 63, 63},
		{Of(0, 63), 2, 0, 63},
		{Of(1, 2, 3, 7), 4, 1, 7},
		{Of(31, 32, 33), 3, 31, 33},
		{all, 64, 0, 63},
		{all.Without(0).Without(63), 62, 1, 62},
	} {
		if got := c.m.Len(); got != c.len {
			t.Errorf("Len of %b: %d, want %d", c.m, got, c.len)
		}
		if got := c.m.First(); got != c.first {
			t.Errorf("First of %b: %d, want %d", c.m, got, c.first)
		}
		if got := c.m.Last(); got != c.last {
			t.Errorf("Last of %b: %d, want %d", c.m, got, c.last)
		}
	}
}

// P2.1
func TestNextNthRank(t *testing.T) {
	for _, c := range []struct {
		m                   Mask
		i, next, nth, ranks int
	}{
		{0, -1, -1, -1, 0},
		{0, 0, -1, -1, 0},
		{0, 63, -1, -1, 0},
		{Of(0), -1, 0, -1, 0},
		{Of(0), 0, -1, 0, 0},
		{Of(0), 1, -1, -1, 1},
		{Of(1, 2, 3, 7), -1, 1, -1, 0},
		{Of(1, 2, 3, 7), least, 1, -1, 0},
		{Of(1, 2, 3, 7), 0, 1, 1, 0},
		{Of(1, 2, 3, 7), 1, 2, 2, 0},
		{Of(1, 2, 3, 7), 2, 3, 3, 1},
		{Of(1, 2, 3, 7), 3, 7, 7, 2},
		{Of(1, 2, 3, 7), 4, 7, -1, 3},
		{Of(1, 2, 3, 7), 5, 7, -1, 3},
		{Of(1, 2, 3, 7), 7, -1, -1, 3},
		{Of(1, 2, 3, 7), 8, -1, -1, 4},
		{Of(1, 2, 3, 7), most, -1, -1, 4},
		{Of(63), 61, 63, -1, 0},
		{Of(63), 62, 63, -1, 0},
		{Of(63), 63, -1, -1, 0},
		{Of(63), 64, -1, -1, 1},
		{Of(63), 65, -1, -1, 1},
		{Of(0, 63), 1, 63, 63, 1},
		{Of(0, 63), 2, 63, -1, 1},
		{all, -2, 0, -1, 0},
		{all, least, 0, -1, 0},
		{all, 0, 1, 0, 0},
		{all, 62, 63, 62, 62},
		{all, 63, -1, 63, 63},
		{all, 64, -1, -1, 64},
		{all, 128, -1, -1, 64},
		{all, most - 1, -1, -1, 64},
		{all, most, -1, -1, 64},
	} {
		if got := c.m.Next(c.i); got != c.next {
			t.Errorf("Next(%d) of %b: %d, want %d", c.i, c.m, got, c.next)
		}
		if got := c.m.Nth(c.i); got != c.nth {
			t.Errorf("Nth(%d) of %b: %d, want %d", c.i, c.m, got, c.nth)
		}
		if got := c.m.Rank(c.i); got != c.ranks {
			t.Errorf("Rank(%d) of %b: %d, want %d", c.i, c.m, got, c.ranks)
		}
	}
}

// P2.1
func TestAll(t *testing.T) {
	var everyone []int
	for i := range places {
		everyone = append(everyone, i)
	}
	for _, c := range []struct {
		m    Mask
		want []int
	}{
		{0, nil},
		{Of(0), []int{0}},
		{Of(63), []int{63}},
		{Of(7, 3, 2, 1), []int{1, 2, 3, 7}},
		{Of(0, 63), []int{0, 63}},
		{all, everyone},
	} {
		members := c.m.All()
		if got := slices.Collect(members); !slices.Equal(got, c.want) {
			t.Errorf("All of %b: %v, want %v", c.m, got, c.want)
		}
		if got := slices.Collect(members); !slices.Equal(got, c.want) {
			t.Errorf("All of %b, gone over again: %v, want %v", c.m, got, c.want)
		}
	}
}

// P2.1, R3
func TestAllLeftEarlyAndNested(t *testing.T) {
	m := Of(1, 2, 3, 7)
	members := m.All()
	m = m.Without(2).With(4)
	for _, count := range []int{1, 2, 3, 4} {
		var got []int
		// A range would panic if it were told more behind its end.
		for i := range members {
			if got = append(got, i); len(got) == count {
				break
			}
		}
		if want := []int{1, 2, 3, 7}[:count]; !slices.Equal(got, want) {
			t.Errorf("All, left behind %d: %v, want %v", count, got, want)
		}
	}
	var pairs [][2]int
	for i := range Of(0, 63).All() {
		for j := range Of(0, 63).All() {
			pairs = append(pairs, [2]int{i, j})
		}
	}
	if want := [][2]int{{0, 0}, {0, 63}, {63, 0}, {63, 63}}; !slices.Equal(pairs, want) {
		t.Errorf("All, nested: %v, want %v", pairs, want)
	}
}

// P2.1
func TestBelow(t *testing.T) {
	for _, c := range []struct {
		n    int
		want Mask
	}{
		{least, 0},
		{-64, 0},
		{-1, 0},
		{0, 0},
		{1, 1},
		{2, 3},
		{4, 15},
		{63, all >> 1},
		{64, all},
		{65, all},
		{128, all},
		{most, all},
	} {
		if got := Below(c.n); got != c.want {
			t.Errorf("Below(%d): %b, want %b", c.n, got, c.want)
		}
	}
}

// P2.2
func TestTurn(t *testing.T) {
	for _, c := range []struct {
		m     Mask
		n, by int
		want  Mask
	}{
		{Of(0, 3), 4, 1, Of(0, 1)},
		{Of(0, 3), 4, -1, Of(2, 3)},
		{Of(0, 3), 4, 0, Of(0, 3)},
		{Of(0, 3), 4, 4, Of(0, 3)},
		{Of(0, 3), 4, -4, Of(0, 3)},
		{Of(0, 3), 4, 3, Of(2, 3)},
		{Of(0, 3), 4, 41, Of(0, 1)},
		{Of(0, 3), 4, -41, Of(2, 3)},
		// 2^63 - 1 is 1 modulo 3, -2^63 is 1 too; modulo 64 they are 63 and 0.
		{Of(0), 3, most, Of(1)},
		{Of(0), 3, least, Of(1)},
		{Of(0), 64, most, Of(63)},
		{Of(5), 64, least, Of(5)},
		{Of(63), 64, most, Of(62)},
		{Of(0), 63, most, Of(7)},
		{Of(0), 63, least, Of(55)},
		// Members that are not below n go.
		{Of(0, 3, 4, 63), 4, 1, Of(0, 1)},
		{Of(0, 3, 4, 63), 4, 0, Of(0, 3)},
		{Of(4, 63), 4, 1, 0},
		{Of(3, 4), 5, 1, Of(0, 4)},
		{Of(62, 63), 63, 1, Of(0)},
		// n at its ends.
		{all, 0, 1, 0},
		{all, -1, 1, 0},
		{all, least, least, 0},
		{all, least, most, 0},
		{all, 1, 0, Of(0)},
		{all, 1, 5, Of(0)},
		{all, 1, -5, Of(0)},
		{all, 1, least, Of(0)},
		{all, 1, most, Of(0)},
		{Of(1), 1, 1, 0},
		{Of(0, 63), 64, 1, Of(0, 1)},
		{Of(0, 63), 64, -1, Of(62, 63)},
		{Of(0, 63), 64, 64, Of(0, 63)},
		{Of(0, 63), 64, 65, Of(0, 1)},
		{Of(0, 63), 65, 1, Of(0, 1)},
		{Of(0, 63), 65, 64, Of(0, 63)},
		{Of(0, 63), most, 1, Of(0, 1)},
		{Of(0, 63), most, most, Of(62, 63)},
		{Of(0, 63), most, least, Of(0, 63)},
		{all, 64, 17, all},
		{all, 10, 7, Below(10)},
		{0, 64, 1, 0},
	} {
		if got := c.m.Turn(c.n, c.by); got != c.want {
			t.Errorf("Turn(%d, %d) of %s: %s, want %s", c.n, c.by, c.m.Text(), got.Text(), c.want.Text())
		}
	}
}

// P2.2, P2.3
func TestTextAndParse(t *testing.T) {
	for _, c := range []struct {
		m    Mask
		want string
	}{
		{0, "-"},
		{all, "0-63"},
		{Of(0), "0"},
		{Of(63), "63"},
		{Of(9), "9"},
		{Of(10), "10"},
		{Of(0, 1), "0-1"},
		{Of(62, 63), "62-63"},
		{Of(0, 2), "0,2"},
		{Of(0, 63), "0,63"},
		{Of(1, 2, 3, 7), "1-3,7"},
		{Of(1, 2, 4, 5), "1-2,4-5"},
		{Of(0, 2, 3, 5, 9, 10, 11, 63), "0,2-3,5,9-11,63"},
		{all.Without(0), "1-63"},
		{all.Without(63), "0-62"},
		{all.Without(31), "0-30,32-63"},
		{0x5555555555555555, "0,2,4,6,8,10,12,14,16,18,20,22,24,26,28,30,32,34,36,38,40,42,44,46,48,50,52,54,56,58,60,62"},
		{0xaaaaaaaaaaaaaaaa, "1,3,5,7,9,11,13,15,17,19,21,23,25,27,29,31,33,35,37,39,41,43,45,47,49,51,53,55,57,59,61,63"},
	} {
		if got := c.m.Text(); got != c.want {
			t.Errorf("Text of %b: %q, want %q", c.m, got, c.want)
		}
		if got, ok := Parse(c.want); got != c.m || !ok {
			t.Errorf("Parse(%q): %b, %v, want %b, true", c.want, got, ok, c.m)
		}
	}
}

// P2.2
func TestParseRefuses(t *testing.T) {
	for _, s := range []string{
		"",
		// Out of order, twice, or such as could be joined.
		"2,1", "3,1", "1,1", "1-3,2", "5,1-3", "1-3,1-3", "4-5,1-2", "1-3,3-5",
		"0,1", "1,2", "1-3,4", "0,1-3", "1-2,3-4", "62,63", "0-62,63",
		// TO not above FROM.
		"3-3", "3-2", "0-0", "63-63", "63-0", "1,5-3", "1,5-5",
		// A leading 0.
		"00", "01", "007", "1-03", "01-3", "1,03", "0-063",
		// Past the last member.
		"64", "65", "99", "100", "0-64", "64-65", "63-64", "1,64", "9223372036854775807",
		"9223372036854775808", "18446744073709551616", "18446744073709551617",
		"1-18446744073709551618", "99999999999999999999999999999999999",
		// Signs.
		"+1", "-1", "-0", "+0", "1-+3", "1--3", "--", "-1-3", "1,-3", "1,-", "-,1", "-,-", "+", "1-3-5",
		// Blanks.
		" ", " 1", "1 ", "1, 3", "1 ,3", "1 -3", "1- 3", " -", "- ", "1\n", "\t1", "1-3,7\n", "1\x00", "\x00",
		// Commas and dashes with nothing at their side.
		",", ",,", "1,", ",1", "1,,3", "1-3,", ",1-3", "1-", "-3", "1-,3", "1,-3-4",
		// What is no number at all.
		"a", "1a", "a1", "0x1", "0b1", "1_0", "1e1", "1.0", "x-y", "1:3", "1;3", "\u0661", "\uff11", "\xff", "1\u20133",
	} {
		if got, ok := Parse(s); got != 0 || ok {
			t.Errorf("Parse(%q): %b, %v, want 0, false", s, got, ok)
		}
	}
}

// P2.3
func TestNthAndRankLeadBack(t *testing.T) {
	for _, m := range []Mask{0, Of(0), Of(63), Of(0, 63), Of(1, 2, 3, 7), 0xaaaaaaaaaaaaaaaa, all} {
		for k := range m.Len() {
			i := m.Nth(k)
			if !m.Has(i) || m.Rank(i) != k {
				t.Errorf("of %s: Nth(%d) is %d, whose Rank is %d", m.Text(), k, i, m.Rank(i))
			}
		}
		for i := range places {
			if m.Has(i) && m.Nth(m.Rank(i)) != i {
				t.Errorf("of %s: Rank(%d) is %d, whose Nth is %d", m.Text(), i, m.Rank(i), m.Nth(m.Rank(i)))
			}
		}
	}
}
