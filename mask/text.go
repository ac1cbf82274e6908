package mask

import (
	"iter"
	"strconv"
	"strings"
)

// none is the text of the set without members.
const none = "-"

// Text tells the members, rising: two or more side by side as FROM-TO, commas
// between; - of none.
func (m Mask) Text() string {
	if m == 0 {
		return none
	}
	var parts []string
	for from, to := range m.runs() {
		parts = append(parts, part(from, to))
	}
	return strings.Join(parts, ",")
}

// runs tells the first and last of all that stand side by side, rising.
func (m Mask) runs() iter.Seq2[int, int] {
	return func(yield func(int, int) bool) {
		for from := m.First(); from >= 0; {
			to := m.end(from)
			if !yield(from, to) {
				return
			}
			from = m.Next(to)
		}
	}
}

// end tells the last member of those that stand side by side from a member on.
func (m Mask) end(from int) int {
	gap := (^m).Next(from)
	if gap < 0 {
		return places - 1
	}
	return gap - 1
}

func part(from, to int) string {
	if from == to {
		return strconv.Itoa(from)
	}
	return strconv.Itoa(from) + "-" + strconv.Itoa(to)
}

// Parse tells the set of which Text is s; false: there is none.
func Parse(s string) (Mask, bool) {
	if s == none {
		return 0, true
	}
	var m Mask
	for p := range strings.SplitSeq(s, ",") {
		run, ok := parsePart(p)
		if !ok {
			return 0, false
		}
		m |= run
	}
	// A set has one text: what names it in another order, or with parts that
	// could be joined, is none.
	if m.Text() != s {
		return 0, false
	}
	return m, true
}

func parsePart(p string) (Mask, bool) {
	first, last, ranged := strings.Cut(p, "-")
	if !ranged {
		last = first
	}
	from, fromOK := parseMember(first)
	to, toOK := parseMember(last)
	if !fromOK || !toOK {
		return 0, false
	}
	return Below(to+1) &^ Below(from), true
}

// parseMember leaves it to Parse to refuse signs and zeros in front: they are
// in no text.
func parseMember(s string) (int, bool) {
	i, err := strconv.Atoi(s)
	if err != nil || i < 0 || i >= places {
		return 0, false
	}
	return i, true
}
