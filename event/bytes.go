package event

import (
	"math"

	"wherry/api"
	"wherry/code"
)

const (
	fullRow  = 1024                         // events that a row may have
	wholeNum = 10                           // bytes that a number of code's can need
	wholeOne = 1 + (5+api.MaxRegs)*wholeNum // bytes that an event can need: a Preempted one's
)

// Bytes tells e as bytes; nothing, if it is not Good.
func Bytes(e api.Event) []byte {
	if !Good(e) {
		return nil
	}
	b := []byte{byte(e.Kind)}
	handNumbers(&e, func(l ...*int) { b = putNums(b, l...) })
	for _, r := range registers(&e) {
		b = code.Int(b, r)
	}
	return b
}

// Parse tells the event whose Bytes stand at b's begin, and how many these are.
func Parse(b []byte) (api.Event, int, api.Errno) {
	// A source copies what it is given: of a long row only what one event can need.
	b = b[:min(len(b), wholeOne)]
	s := code.Read(b)
	e := next(s)
	if s.Err() == api.ErrShort {
		return api.Event{}, 0, api.ErrShort
	}
	if s.Err() != api.OK || !Good(e) {
		return api.Event{}, 0, api.ErrBad
	}
	return e, len(b) - s.Left(), api.OK
}

// All tells a row of events as bytes; nothing, if one is not Good or there are too
// many.
func All(l []api.Event) []byte {
	if len(l) > fullRow {
		return nil
	}
	b := code.Num(nil, uint64(len(l)))
	for _, e := range l {
		if !Good(e) {
			return nil
		}
		b = append(b, Bytes(e)...)
	}
	return b
}

// Read tells the row of events of which All is b.
func Read(b []byte) ([]api.Event, api.Errno) {
	s := code.Read(b)
	var l []api.Event
	for range s.Num(fullRow) {
		e := next(s)
		if !Good(e) {
			return nil, api.ErrBad
		}
		l = append(l, e)
	}
	if s.End() != api.OK {
		return nil, api.ErrBad
	}
	return l, api.OK
}

// next tells the next event, whatever its numbers are; of another kind nothing but
// that is got, since nobody knows what it has.
func next(s *code.Source) api.Event {
	e := api.Event{Kind: int(s.Byte())}
	handNumbers(&e, func(l ...*int) { getNums(s, l...) })
	all := registers(&e)
	for i := range all {
		all[i] = s.Int(math.MinInt, math.MaxInt)
	}
	return e
}

// handNumbers hands the numbers that an event of e's kind has to a function, in the
// order in which they are written; none of another kind.
func handNumbers(e *api.Event, hand func(l ...*int)) {
	if !isKind(e.Kind) {
		return
	}
	k := kinds[e.Kind]
	hand(&e.Act)
	if k.thread.most > 0 {
		hand(&e.Thread)
	}
	if k.value.most > 0 {
		hand(&e.Value)
	}
	if k.context {
		hand(&e.Context.Program, &e.Context.PC, &e.Context.Depth)
	}
}

// registers tells e's registers, to be read or put; none, if its kind has no
// context.
func registers(e *api.Event) []int {
	if !isKind(e.Kind) || !kinds[e.Kind].context {
		return nil
	}
	return e.Context.Regs[:]
}

// putNums tells b with these numbers behind it, none of which is below 0.
func putNums(b []byte, l ...*int) []byte {
	for _, n := range l {
		b = code.Num(b, uint64(*n))
	}
	return b
}

// getNums gets these numbers, whatever they are: that no event has one is no error
// of code's, but Good's to say, once all are there. One that is no int stands as the
// greatest int, which is as little Good.
func getNums(s *code.Source, l ...*int) {
	for _, n := range l {
		*n = int(min(s.Num(math.MaxUint64), math.MaxInt))
	}
}
