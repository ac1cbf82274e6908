package isa

import (
	"math"

	"wherry/api"
	"wherry/code"
)

// Bytes tells p as bytes; nothing, if it is not Whole.
func Bytes(p api.Program) []byte {
	if !Whole(p) {
		return nil
	}
	b := code.Num(nil, uint64(len(p)))
	for _, in := range p {
		b = append(b, byte(in.Op))
		for number := range used(&in) {
			b = code.Int(b, *number)
		}
	}
	return b
}

// Parse tells the program of which Bytes is b.
func Parse(b []byte) (api.Program, api.Errno) {
	s := code.Read(b)
	var p api.Program
	for range s.Num(api.MaxCode) {
		p = append(p, next(s))
	}
	if s.End() != api.OK || !Whole(p) {
		return nil, api.ErrBad
	}
	return p, api.OK
}

// next tells the next instruction, whatever its numbers are: what they may be
// hangs on how many instructions there are.
func next(s *code.Source) api.Instr {
	in := api.Instr{Op: int(s.Byte())}
	for number := range used(&in) {
		*number = s.Int(math.MinInt, math.MaxInt)
	}
	return in
}
