package cpu

import (
	"math"
	"slices"
	"testing"

	"wherry/api"
	"wherry/isa"
)

const (
	lowest  = math.MinInt
	highest = math.MaxInt
)

// context is one at this place, with numbers of its own in all registers.
func context(pc int) api.Context {
	return api.Context{Program: 3, PC: pc, Regs: [8]int{10, 11, 12, 13, 14, 15, 16, 17}, Depth: 2}
}

// having is context(pc) with these numbers in the first registers.
func having(pc int, numbers ...int) api.Context {
	c := context(pc)
	copy(c.Regs[:], numbers)
	return c
}

// putting is context(pc) with this number in a register.
func putting(pc, register, number int) api.Context {
	c := context(pc)
	c.Regs[register] = number
	return c
}

// deep is context(pc) in so many sections.
func deep(pc, depth int) api.Context {
	c := context(pc)
	c.Depth = depth
	return c
}

// with is a program of so many instructions that does this one at i, and nothing
// elsewhere.
func with(in api.Instr, i, n int) api.Program {
	p := make(api.Program, n)
	p[i] = in
	return p
}

// steps asks Step, and Run of one, of p.
func steps(t *testing.T, p api.Program, c, want api.Context, call Call) {
	t.Helper()
	if got, k := Step(p, c); got != want || k != call {
		t.Errorf("Step(%v, %+v): %+v, %+v, want %+v, %+v", p, c, got, k, want, call)
	}
	if got, k, n := Run(p, c, 1); got != want || k != call || n != 1 {
		t.Errorf("Run(%v, %+v, 1): %+v, %+v, %d, want %+v, %+v, 1", p, c, got, k, n, want, call)
	}
}

// does asks Step of an instruction at 2 of five.
func does(t *testing.T, in api.Instr, c, want api.Context) {
	t.Helper()
	steps(t, with(in, 2, 5), c, want, Call{})
}

// P13.1: what each operation does that is no call, and what it leaves alone.
func TestStepOfEachOperation(t *testing.T) {
	for _, x := range []struct {
		in   api.Instr
		want api.Context
	}{
		{api.Instr{Op: isa.Nop}, context(3)},
		{api.Instr{Op: isa.Set, A: 0, B: 5}, putting(3, 0, 5)},
		{api.Instr{Op: isa.Set, A: 7, B: -5}, putting(3, 7, -5)},
		{api.Instr{Op: isa.Set, A: 4, B: 0}, putting(3, 4, 0)},
		{api.Instr{Op: isa.Set, A: 4, B: 1 << 40}, putting(3, 4, 1<<40)},
		{api.Instr{Op: isa.Set, A: 4, B: -1 << 40}, putting(3, 4, -1<<40)},
		{api.Instr{Op: isa.Add, A: 0, B: 7}, putting(3, 0, 27)},
		{api.Instr{Op: isa.Add, A: 7, B: 0}, putting(3, 7, 27)},
		{api.Instr{Op: isa.Add, A: 3, B: 4}, putting(3, 3, 27)},
		{api.Instr{Op: isa.Sub, A: 0, B: 7}, putting(3, 0, -7)},
		{api.Instr{Op: isa.Sub, A: 7, B: 0}, putting(3, 7, 7)},
		{api.Instr{Op: isa.Copy, A: 0, B: 7}, putting(3, 0, 17)},
		{api.Instr{Op: isa.Copy, A: 7, B: 0}, putting(3, 7, 10)},
		{api.Instr{Op: isa.Less, A: 0, B: 6, C: 7}, putting(3, 0, 1)},
		{api.Instr{Op: isa.Less, A: 7, B: 6, C: 5}, putting(3, 7, 0)},
		{api.Instr{Op: isa.Jump, A: 0}, context(0)},
		{api.Instr{Op: isa.Jump, A: 2}, context(2)},
		{api.Instr{Op: isa.Jump, A: 4}, context(4)},
		{api.Instr{Op: isa.Jump, A: 5}, context(5)},
		{api.Instr{Op: isa.Zero, A: 1, B: 5}, context(3)},
		{api.Instr{Op: isa.Loop, A: 0, B: 5}, putting(5, 0, 9)},
		{api.Instr{Op: isa.Loop, A: 7, B: 0}, putting(0, 7, 16)},
		{api.Instr{Op: isa.Enter}, deep(3, 3)},
		{api.Instr{Op: isa.Leave}, deep(3, 1)},
	} {
		does(t, x.in, context(2), x.want)
	}
}

// P13.1: registers are numbers modulo 2^64.
func TestRegistersGoRound(t *testing.T) {
	for _, x := range []struct{ a, b, sum, difference int }{
		{highest, 1, lowest, highest - 1},
		{highest, highest, -2, 0},
		{highest, lowest, -1, -1},
		{highest, -1, highest - 1, lowest},
		{highest, 0, highest, highest},
		{lowest, -1, highest, lowest + 1},
		{lowest, lowest, 0, 0},
		{lowest, highest, -1, 1},
		{lowest, 1, lowest + 1, highest},
		{lowest, 0, lowest, lowest},
		{0, lowest, lowest, lowest},
		{0, highest, highest, lowest + 1},
		{-1, lowest, highest, highest},
		{1, highest, lowest, lowest + 2},
		{-1, highest, highest - 1, lowest},
		{1 << 62, 1 << 62, lowest, 0},
		{-1 << 62, -1<<62 - 1, highest, 1},
	} {
		c := having(2, x.a, x.b)
		does(t, api.Instr{Op: isa.Add, A: 0, B: 1}, c, having(3, x.sum, x.b))
		does(t, api.Instr{Op: isa.Sub, A: 0, B: 1}, c, having(3, x.difference, x.b))
		does(t, api.Instr{Op: isa.Copy, A: 0, B: 1}, c, having(3, x.b, x.b))
	}
}

// P13.1
func TestLess(t *testing.T) {
	numbers := []int{lowest, lowest + 1, -2, -1, 0, 1, 2, highest - 1, highest}
	for i, b := range numbers {
		for j, c := range numbers {
			want := 0
			if i < j {
				want = 1
			}
			does(t, api.Instr{Op: isa.Less, A: 2, B: 0, C: 1}, having(2, b, c, 9), having(3, b, c, want))
			does(t, api.Instr{Op: isa.Less, A: 0, B: 0, C: 1}, having(2, b, c), having(3, want, c))
			does(t, api.Instr{Op: isa.Less, A: 1, B: 0, C: 1}, having(2, b, c), having(3, b, want))
		}
	}
}

// P13.1
func TestOfRegisterWithItself(t *testing.T) {
	for _, x := range []struct{ number, twice int }{
		{0, 0}, {1, 2}, {-1, -2}, {5, 10}, {1 << 62, lowest}, {-1 << 62, lowest}, {highest, -2}, {lowest, 0},
	} {
		for r := range 8 {
			c := putting(2, r, x.number)
			does(t, api.Instr{Op: isa.Add, A: r, B: r}, c, putting(3, r, x.twice))
			does(t, api.Instr{Op: isa.Sub, A: r, B: r}, c, putting(3, r, 0))
			does(t, api.Instr{Op: isa.Copy, A: r, B: r}, c, putting(3, r, x.number))
			does(t, api.Instr{Op: isa.Less, A: r, B: r, C: r}, c, putting(3, r, 0))
		}
	}
}

// P13.1
func TestZeroAndLoop(t *testing.T) {
	for _, number := range []int{lowest, lowest + 1, -2, -1, 0, 1, 2, 3, highest - 1, highest} {
		for to := range 6 {
			zero, loop := 3, to
			if number == 0 {
				zero = to
			}
			if number == 1 {
				loop = 3
			}
			less := number - 1
			if number == lowest {
				less = highest
			}
			for r := range 8 {
				c := putting(2, r, number)
				does(t, api.Instr{Op: isa.Zero, A: r, B: to}, c, putting(zero, r, number))
				does(t, api.Instr{Op: isa.Loop, A: r, B: to}, c, putting(loop, r, less))
			}
		}
	}
}

// P13.1
func TestDepth(t *testing.T) {
	for _, x := range []struct{ depth, entered, left int }{
		{lowest, lowest + 1, lowest}, {-9, -8, -9}, {-1, 0, -1}, {0, 1, 0}, {1, 2, 0}, {2, 3, 1}, {6, 7, 5},
		{7, 8, 6}, {8, 8, 7}, {9, 9, 8}, {10, 10, 9}, {highest - 1, highest - 1, highest - 2}, {highest, highest, highest - 1},
	} {
		does(t, api.Instr{Op: isa.Enter}, deep(2, x.depth), deep(3, x.entered))
		does(t, api.Instr{Op: isa.Leave}, deep(2, x.depth), deep(3, x.left))
		does(t, api.Instr{Op: isa.Nop}, deep(2, x.depth), deep(3, x.depth))
	}
}

// exit is the call with which a thread ends that has no instruction.
var exit = Call{Op: 11}

// P13.1: at the last instruction it is done; behind it, and ahead of the first one,
// there is none.
func TestStepWhereThereIsNoInstruction(t *testing.T) {
	for _, n := range []int{1, 2, 5, 63, 64} {
		p := make(api.Program, n)
		for i := range p {
			p[i] = api.Instr{Op: isa.Set, A: 1, B: i}
		}
		for i := range n {
			steps(t, p, context(i), putting(i+1, 1, i), Call{})
		}
		for _, pc := range []int{lowest, lowest + 1, -n, -2, -1, n, n + 1, 2 * n, 65, 1 << 32, 1<<32 + 1, highest - 1, highest} {
			steps(t, p, context(pc), context(pc), exit)
		}
	}
}

// P13.1, P1
func TestStepOfNoProgram(t *testing.T) {
	behind := api.Program{{Op: isa.Set, B: 5}}
	for _, p := range []api.Program{nil, {}, behind[:0]} {
		for _, pc := range []int{lowest, -1, 0, 1, 63, 64, highest} {
			steps(t, p, context(pc), context(pc), exit)
			steps(t, p, api.Context{PC: pc}, api.Context{PC: pc}, exit)
		}
	}
}

// faults are instructions that are not Good in a program of five: no operation, or
// a number that its Shape does not allow.
func faults() []api.Instr {
	l := []api.Instr{
		{Op: lowest}, {Op: -1}, {Op: 27}, {Op: 255}, {Op: 256}, {Op: 256 + 11}, {Op: highest},
		{Op: isa.Nop, A: 1}, {Op: isa.Nop, B: 1}, {Op: isa.Nop, C: 1},
		{Op: isa.Set, B: 1<<40 + 1}, {Op: isa.Set, B: -1<<40 - 1}, {Op: isa.Set, C: 1},
		{Op: isa.Jump, A: -1}, {Op: isa.Jump, A: 6}, {Op: isa.Jump, B: 1},
		{Op: isa.Zero, B: -1}, {Op: isa.Zero, B: 6}, {Op: isa.Loop, B: -1}, {Op: isa.Loop, B: 6},
		{Op: isa.Enter, A: 1}, {Op: isa.Leave, C: -1}, {Op: isa.Exit, B: 1}, {Op: isa.Yield, A: 1},
		{Op: isa.Spawn, A: 8, B: 1}, {Op: isa.Spawn}, {Op: isa.Join, B: 1}, {Op: isa.Lock, A: 4},
		{Op: isa.Wait, B: -1}, {Op: isa.Sleep}, {Op: isa.Sleep, A: 1001}, {Op: isa.Read, A: 1001}, {Op: isa.Write, A: -1},
	}
	return append(l, strangers()...)
}

// strangers are instructions that name a register that there is not.
func strangers() []api.Instr {
	var l []api.Instr
	for _, r := range []int{lowest, -8, -1, 8, 9, 1 << 32, highest} {
		for _, op := range []int{isa.Set, isa.Add, isa.Sub, isa.Copy, isa.Less, isa.Zero, isa.Loop, isa.Exit, isa.Join} {
			l = append(l, api.Instr{Op: op, A: r})
		}
		for _, op := range []int{isa.Add, isa.Sub, isa.Copy, isa.Less} {
			l = append(l, api.Instr{Op: op, B: r})
		}
		for _, op := range []int{isa.Less, isa.Join, isa.Read, isa.Write, isa.Self, isa.Time} {
			l = append(l, api.Instr{Op: op, C: r})
		}
		l = append(l, api.Instr{Op: isa.Spawn, B: 1, C: r})
	}
	return l
}

// P13.1, P1: of a program that is not Whole, wherever the fault is, and wherever the
// thread is.
func TestStepOfProgramThatIsNotWhole(t *testing.T) {
	for _, in := range faults() {
		for i := range 5 {
			p := with(in, i, 5)
			if isa.Whole(p) {
				t.Fatalf("%+v is no fault", in)
			}
			for _, pc := range []int{lowest, -1, 0, 1, 2, 3, 4, 5, 6, highest} {
				steps(t, p, context(pc), context(pc), exit)
			}
		}
	}
	for _, n := range []int{65, 66, 1000} {
		for _, pc := range []int{-1, 0, 1, 63, 64, 65, n - 1, n, highest} {
			steps(t, make(api.Program, n), context(pc), context(pc), exit)
		}
	}
}

// P13.1: no program that is Whole names a register that there is not, so a machine
// is asked here.
func TestRegisterThatThereIsNot(t *testing.T) {
	for _, r := range []int{lowest, lowest + 7, -8, -7, -1, 8, 9, 15, 1 << 32, highest} {
		m := machine{Context: context(2)}
		if got := m.get(r); got != 0 {
			t.Errorf("register %d is %d, want 0", r, got)
		}
		m.put(r, 5)
		if m.Context != context(2) {
			t.Errorf("put of register %d: %+v", r, m.Context)
		}
		for _, x := range []struct {
			in   api.Instr
			want api.Context
			call Call
		}{
			{api.Instr{Op: isa.Set, A: r, B: 5}, context(2), Call{}},
			{api.Instr{Op: isa.Add, A: r, B: 1}, context(2), Call{}},
			{api.Instr{Op: isa.Add, A: 1, B: r}, context(2), Call{}},
			{api.Instr{Op: isa.Sub, A: 1, B: r}, context(2), Call{}},
			{api.Instr{Op: isa.Copy, A: 1, B: r}, putting(2, 1, 0), Call{}},
			{api.Instr{Op: isa.Less, A: 1, B: r, C: 2}, putting(2, 1, 1), Call{}},
			{api.Instr{Op: isa.Less, A: 1, B: 2, C: r}, putting(2, 1, 0), Call{}},
			{api.Instr{Op: isa.Zero, A: r, B: 4}, context(4), Call{}},
			{api.Instr{Op: isa.Loop, A: r, B: 4}, context(2), Call{}},
			{api.Instr{Op: isa.Exit, A: r}, context(2), Call{Op: 11}},
			{api.Instr{Op: isa.Join, A: r, C: 4}, context(2), Call{Op: 14, C: 4}},
		} {
			m := machine{Context: context(2)}
			if k := m.do(x.in); m.Context != x.want || k != x.call {
				t.Errorf("%+v: %+v, %+v, want %+v, %+v", x.in, m.Context, k, x.want, x.call)
			}
		}
	}
}

// P13.1: of each call its numbers as they stand, of Exit and Join what stands in
// the register; the context is one place on, and else as it was.
func TestCalls(t *testing.T) {
	for _, x := range []struct {
		in   api.Instr
		want Call
	}{
		{api.Instr{Op: isa.Exit, A: 0}, Call{11, 10, 0, 0}},
		{api.Instr{Op: isa.Exit, A: 7}, Call{11, 17, 0, 0}},
		{api.Instr{Op: isa.Yield}, Call{12, 0, 0, 0}},
		{api.Instr{Op: isa.Spawn, A: 0, B: 1, C: 0}, Call{13, 0, 1, 0}},
		{api.Instr{Op: isa.Spawn, A: 7, B: 65536, C: 6}, Call{13, 7, 65536, 6}},
		{api.Instr{Op: isa.Join, A: 0, C: 1}, Call{14, 10, 0, 1}},
		{api.Instr{Op: isa.Join, A: 7, C: 7}, Call{14, 17, 0, 7}},
		{api.Instr{Op: isa.Lock, A: 3}, Call{15, 3, 0, 0}},
		{api.Instr{Op: isa.Unlock, A: 2}, Call{16, 2, 0, 0}},
		{api.Instr{Op: isa.Wait, A: 1, B: 3}, Call{17, 1, 3, 0}},
		{api.Instr{Op: isa.Signal, A: 3}, Call{18, 3, 0, 0}},
		{api.Instr{Op: isa.Cast, A: 2}, Call{19, 2, 0, 0}},
		{api.Instr{Op: isa.Down, A: 1}, Call{20, 1, 0, 0}},
		{api.Instr{Op: isa.Up, A: 0}, Call{21, 0, 0, 0}},
		{api.Instr{Op: isa.Sleep, A: 1}, Call{22, 1, 0, 0}},
		{api.Instr{Op: isa.Sleep, A: 1000}, Call{22, 1000, 0, 0}},
		{api.Instr{Op: isa.Read, A: 0, C: 5}, Call{23, 0, 0, 5}},
		{api.Instr{Op: isa.Read, A: 7, C: 5}, Call{23, 7, 0, 5}},
		{api.Instr{Op: isa.Write, A: 1000, C: 4}, Call{24, 1000, 0, 4}},
		{api.Instr{Op: isa.Self, C: 3}, Call{25, 0, 0, 3}},
		{api.Instr{Op: isa.Time, C: 7}, Call{26, 0, 0, 7}},
	} {
		for i := range 5 {
			p := with(x.in, i, 5)
			steps(t, p, context(i), context(i+1), x.want)
			for _, depth := range []int{lowest, -1, 0, 8, highest} {
				steps(t, p, deep(i, depth), deep(i+1, depth), x.want)
			}
		}
	}
	for r := range 8 {
		for _, number := range []int{lowest, -1, 0, 1, 65536, highest} {
			c, want := putting(0, r, number), putting(1, r, number)
			steps(t, api.Program{{Op: isa.Exit, A: r}}, c, want, Call{11, number, 0, 0})
			steps(t, api.Program{{Op: isa.Join, A: r, C: 7 - r}}, c, want, Call{14, number, 0, 7 - r})
		}
	}
}

// P13.1: which program a context is of is not looked at.
func TestStepKeepsProgram(t *testing.T) {
	for _, program := range []int{lowest, -1, 0, 1, 7, 8, highest} {
		for op := range 27 {
			in := api.Instr{Op: op}
			if op == isa.Spawn {
				in.B = 1
			}
			if op == isa.Sleep {
				in.A = 1
			}
			if c, _ := Step(api.Program{in}, Fresh(program, 1)); c.Program != program {
				t.Errorf("%s of program %d: of %d", isa.Name(op), program, c.Program)
			}
		}
	}
}

// R3: what is handed in is not changed, nor the room behind its end.
func TestProgramIsNotChanged(t *testing.T) {
	for _, p := range []api.Program{
		nil,
		{{Op: isa.Set, B: 3}, {Op: isa.Loop, B: 1}, {Op: isa.Exit}},
		{{Op: isa.Enter}, {Op: isa.Jump}},
		{{Op: 99}, {Op: isa.Exit, A: 9}},
	} {
		all := append(slices.Clone(p), api.Instr{Op: isa.Set, A: 1, B: 9}, api.Instr{Op: 88})
		whole := slices.Clone(all)
		part := all[:len(p)]
		c := context(0)
		Step(part, c)
		Run(part, c, 20)
		if !slices.Equal(all, whole) {
			t.Errorf("%v became %v", whole, all)
		}
		if c != context(0) {
			t.Errorf("the context became %+v", c)
		}
	}
}
