package code

import (
	"slices"

	"wherry/api"
)

// lastShift is how far up the bits of a Num's tenth byte stand: of these only
// the lowest one is below 2^64.
const lastShift = 9 * bits

// Source is bytes of which values are got, one behind the other.
type Source struct {
	made bool
	rest []byte // what was not got yet
	err  api.Errno
}

// Read tells a Source of these bytes.
func Read(b []byte) *Source {
	return &Source{made: true, rest: slices.Clone(b)}
}

// Num tells the next number, which is not above most.
func (s *Source) Num(most uint64) uint64 {
	return get(s, func() uint64 { return s.numTo(most) })
}

// Int tells the next int, which is from least to most.
func (s *Source) Int(least, most int) int {
	return get(s, func() int { return s.intIn(least, most) })
}

// Text tells the next text, which has not more than most bytes.
func (s *Source) Text(most int) string {
	return get(s, func() string { return string(s.cut(s.count(most))) })
}

// Flag tells the next flag.
func (s *Source) Flag() bool {
	return get(s, s.flag)
}

// Ints tells the next ints, which are not more than count, each from least to
// most.
func (s *Source) Ints(count, least, most int) []int {
	return get(s, func() []int {
		var l []int
		// The bytes may say any count: room is made only for ints that are there.
		for range s.count(count) {
			l = append(l, s.intIn(least, most))
		}
		return l
	})
}

// Byte tells the next byte.
func (s *Source) Byte() byte {
	return get(s, s.next)
}

// Left tells how many bytes are left; 0 behind an error.
func (s *Source) Left() int {
	if s.Err() != api.OK {
		return 0
	}
	return len(s.rest)
}

// Err tells the first error.
func (s *Source) Err() api.Errno {
	if s == nil || !s.made {
		return api.ErrMade
	}
	return s.err
}

// End tells the first error, or that bytes are left.
func (s *Source) End() api.Errno {
	if s.Left() > 0 {
		return api.ErrBad
	}
	return s.Err()
}

// fault is what is wrong with the bytes: it goes up from where it is found, past
// all that is half got, to the one place that keeps it.
type fault api.Errno

// get tells what the step tells; the zero value, if a fault comes up from it, or
// an error was there already. Each of a Source's values is got by it.
func get[T any](s *Source, step func() T) (value T) {
	if s.Err() != api.OK {
		return value
	}
	defer func() {
		switch f := recover().(type) {
		case nil:
		case fault:
			s.err = api.Errno(f)
		default:
			// No step can come here: that would be this package's own mistake,
			// which must not pass for a value.
			panic(f)
		}
	}()
	return step()
}

// cut tells the next n bytes.
func (s *Source) cut(n uint64) []byte {
	if n > uint64(len(s.rest)) {
		panic(fault(api.ErrShort))
	}
	head := s.rest[:n]
	s.rest = s.rest[n:]
	return head
}

func (s *Source) next() byte {
	return s.cut(1)[0]
}

func (s *Source) flag() bool {
	c := s.next()
	if c > 1 {
		panic(fault(api.ErrBad))
	}
	return c == 1
}

// num tells the next number, whatever it is.
func (s *Source) num() uint64 {
	var n uint64
	for shift := 0; ; shift += bits {
		c := s.next()
		// Of one number's ways to be written only the shortest one counts.
		if shift > 0 && c == 0 || shift == lastShift && c > 1 {
			panic(fault(api.ErrBad))
		}
		n |= uint64(c%more) << shift
		if c < more {
			return n
		}
	}
}

func (s *Source) numTo(most uint64) uint64 {
	n := s.num()
	if n > most {
		panic(fault(api.ErrRange))
	}
	return n
}

// count tells the next number, which says how many follow.
func (s *Source) count(most int) uint64 {
	return s.numTo(uint64(max(most, 0)))
}

func (s *Source) intIn(least, most int) int {
	u := s.num()
	n := int(u / 2)
	if u%2 == 1 {
		n = ^n
	}
	if n < least || n > most {
		panic(fault(api.ErrRange))
	}
	return n
}
