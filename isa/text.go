package isa

import (
	"iter"
	"strconv"
	"strings"

	"wherry/api"
)

const (
	longest = 4096 // bytes that a text may have
	digits  = 14   // that a number may have
	blank   = ' '
	comment = '#'
)

// Print tells p as text, a line an instruction; nothing, if it is not Whole.
func Print(p api.Program) string {
	if !Whole(p) {
		return ""
	}
	var text strings.Builder
	for _, in := range p {
		text.WriteString(Name(in.Op))
		for number := range used(&in) {
			text.WriteByte(blank)
			text.WriteString(strconv.Itoa(*number))
		}
		text.WriteByte('\n')
	}
	return text.String()
}

// Scan tells the program that a text says, or what is wrong with it, and the
// number of the line where one is to be named.
func Scan(s string) (api.Program, int, api.Errno) {
	if len(s) > longest {
		return nil, 0, api.ErrLong
	}
	var p api.Program
	var from []int // the number of each instruction's line
	for line, words := range lines(s) {
		in, ok := instruction(words)
		if !ok {
			return nil, line, api.ErrLine
		}
		p, from = append(p, in), append(from, line)
	}
	// Only now it is known which places the program has.
	for i, line := range from {
		if !Good(p, i) {
			return nil, line, api.ErrBad
		}
	}
	if len(p) > api.MaxCode {
		return nil, 0, api.ErrLong
	}
	return p, 0, api.OK
}

// lines tells the words of each line that says something, with its number, from 1
// on.
func lines(s string) iter.Seq2[int, []string] {
	return func(yield func(int, []string) bool) {
		rest := s
		for number := 1; rest != ""; number++ {
			var line string
			line, rest, _ = strings.Cut(rest, "\n")
			words := strings.FieldsFunc(line, isBlank)
			if len(words) == 0 || line[0] == comment {
				continue
			}
			if !yield(number, words) {
				return
			}
		}
	}
}

func isBlank(r rune) bool { return r == blank }

// instruction tells what a line's words say: an operation's name, and the numbers
// that it uses, whatever they are.
func instruction(words []string) (api.Instr, bool) {
	op, ok := operation(words[0])
	if !ok {
		return api.Instr{}, false
	}
	in, rest := api.Instr{Op: op}, words[1:]
	for number := range used(&in) {
		if len(rest) == 0 || !isNumber(rest[0]) {
			return api.Instr{}, false
		}
		// So few digits can't be too great.
		*number, _ = strconv.Atoi(rest[0])
		rest = rest[1:]
	}
	return in, len(rest) == 0
}

// operation tells which one has that name.
func operation(name string) (int, bool) {
	for op := range table {
		if table[op].name == name {
			return op, true
		}
	}
	return 0, false
}

// isNumber tells whether a word is 1 to 14 digits, with a - ahead or without.
func isNumber(word string) bool {
	word = strings.TrimPrefix(word, "-")
	for _, c := range []byte(word) {
		if c < '0' || c > '9' {
			return false
		}
	}
	return len(word) >= 1 && len(word) <= digits
}
