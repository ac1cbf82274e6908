package cpu

import (
	"testing"

	"wherry/api"
	"wherry/isa"
)

// P13.2: which calls are answered by a value; the numbers are those of chapter 12.
func tells(op int) bool {
	return op == 13 || op == 14 || op == 23 || op == 24 || op == 25 || op == 26
}

// operations are all of them, and numbers that are none.
func operations() []int {
	l := []int{lowest, -14, -1, 27, 28, 256 + 13, 1 << 32, highest}
	for op := range 27 {
		l = append(l, op)
	}
	return l
}

// gives asks Give of a call with this Op and C; others of its numbers don't count.
func gives(t *testing.T, op, register, value int, e api.Errno, want api.Context) {
	t.Helper()
	for _, other := range []int{0, 1, 7, lowest, highest} {
		k := Call{Op: op, A: other, B: other, C: register}
		if got := Give(context(5), k, value, e); got != want {
			t.Errorf("Give(%+v, %d, %d): %+v, want %+v", k, value, int(e), got, want)
		}
	}
}

// given is context(5) with an error's number in register 7.
func given(e int) api.Context {
	return putting(5, 7, e)
}

// P13.2
func TestGive(t *testing.T) {
	for _, op := range operations() {
		for r := range 7 {
			for _, value := range []int{lowest, -1, 0, 1, 99, highest} {
				want := given(0)
				if tells(op) {
					want.Regs[r] = value
				}
				gives(t, op, r, value, api.OK, want)
			}
		}
	}
}

// P13.2: with an error the value is 0, whatever is given.
func TestGiveOfError(t *testing.T) {
	for _, op := range operations() {
		for r := range 7 {
			for _, e := range []api.Errno{api.ErrMade, api.ErrArg, api.ErrFull, api.ErrFuel, 14, -1, lowest, highest} {
				want := given(int(e))
				if tells(op) {
					want.Regs[r] = 0
				}
				gives(t, op, r, 99, e, want)
				gives(t, op, r, 0, e, want)
			}
		}
	}
}

// P13.2: the error's number comes behind the value, so that it is what stays.
func TestGiveToRegister7(t *testing.T) {
	for _, op := range operations() {
		for _, e := range []api.Errno{api.OK, api.ErrNone, api.ErrFuel, -1} {
			gives(t, op, 7, 99, e, given(int(e)))
		}
	}
}

// P13.1, P13.2, P1: a register that there is not takes nothing.
func TestGiveToNoRegister(t *testing.T) {
	for _, op := range operations() {
		for _, r := range []int{lowest, -8, -1, 8, 9, 1 << 32, highest} {
			for _, e := range []api.Errno{api.OK, api.ErrNone} {
				gives(t, op, r, 99, e, given(int(e)))
			}
		}
	}
}

// P13.2: of a context only registers change.
func TestGiveLeavesTheRest(t *testing.T) {
	for _, n := range []int{lowest, -1, 0, 64, highest} {
		c := api.Context{Program: n, PC: n, Depth: n}
		want := c
		want.Regs[1], want.Regs[7] = 5, 0
		if got := Give(c, Call{Op: isa.Self, C: 1}, 5, api.OK); got != want {
			t.Errorf("Give(%+v): %+v, want %+v", c, got, want)
		}
	}
}

// runs asks Run.
func runs(t *testing.T, p api.Program, c api.Context, most int, want api.Context, call Call, count int) {
	t.Helper()
	if got, k, n := Run(p, c, most); got != want || k != call || n != count {
		t.Errorf("Run(%v, %+v, %d): %+v, %+v, %d, want %+v, %+v, %d", p, c, most, got, k, n, want, call, count)
	}
}

// counting is the chapter's example.
func counting() api.Program {
	return api.Program{{Op: isa.Set, A: 0, B: 3}, {Op: isa.Loop, A: 0, B: 1}, {Op: isa.Exit, A: 0}}
}

// P13.1: the chapter's example: the fifth step is the call Exit of 0.
func TestExample(t *testing.T) {
	c := Fresh(2, 9)
	for i, want := range []struct{ pc, number int }{{1, 3}, {1, 2}, {1, 1}, {2, 0}, {3, 0}} {
		var k Call
		c, k = Step(counting(), c)
		call := Call{}
		if i == 4 {
			call = exit
		}
		if expected := (api.Context{Program: 2, PC: want.pc, Regs: [8]int{want.number}}); c != expected || k != call {
			t.Errorf("step %d: %+v, %+v, want %+v, %+v", i+1, c, k, expected, call)
		}
	}
}

// P13.2
func TestRunOfSomeSteps(t *testing.T) {
	at := func(pc, number int) api.Context {
		return api.Context{PC: pc, Regs: [8]int{number}}
	}
	for _, x := range []struct {
		most int
		want api.Context
		call Call
		n    int
	}{
		{lowest, at(0, 9), Call{}, 0}, {-2, at(0, 9), Call{}, 0}, {-1, at(0, 9), Call{}, 0}, {0, at(0, 9), Call{}, 0},
		{1, at(1, 3), Call{}, 1}, {2, at(1, 2), Call{}, 2}, {3, at(1, 1), Call{}, 3}, {4, at(2, 0), Call{}, 4},
		{5, at(3, 0), exit, 5}, {6, at(3, 0), exit, 5}, {1000, at(3, 0), exit, 5}, {highest, at(3, 0), exit, 5},
	} {
		runs(t, counting(), at(0, 9), x.most, x.want, x.call, x.n)
	}
}

// P13.2: the first call ends a Run, wherever it stands, and the next one goes on
// behind it.
func TestRunUpToCall(t *testing.T) {
	for op := isa.Exit; op <= isa.Time; op++ {
		in, want := api.Instr{Op: op}, Call{Op: op}
		switch op {
		case isa.Exit, isa.Join:
			want.A = 10
		case isa.Spawn:
			in.B, want.B = 1, 1
		case isa.Sleep:
			in.A, want.A = 1, 1
		}
		for i := range 5 {
			p := with(in, i, 5)
			runs(t, p, context(0), i, context(i), Call{}, i)
			runs(t, p, context(0), i+1, context(i+1), want, i+1)
			runs(t, p, context(0), i+2, context(i+1), want, i+1)
			runs(t, p, context(0), highest, context(i+1), want, i+1)
			runs(t, p, context(i+1), highest, context(5), exit, 5-i)
		}
	}
}

// P13.2: a thread that comes behind its program's end exits there; that is a step.
func TestRunBehindTheEnd(t *testing.T) {
	p := api.Program{{Op: isa.Enter}, {Op: isa.Jump, A: 3}, {Op: isa.Yield}}
	want := deep(3, 3)
	runs(t, p, context(0), 2, want, Call{}, 2)
	runs(t, p, context(0), 3, want, exit, 3)
	runs(t, p, context(0), 4, want, exit, 3)
	runs(t, p, context(3), 4, context(3), exit, 1)
	runs(t, p, context(-1), 4, context(-1), exit, 1)
	runs(t, p, context(highest), 4, context(highest), exit, 1)
}

// P13.2, P1: no program, or one that is not Whole, has one step, wherever the fault
// is; none, if none is asked for.
func TestRunOfNoProgram(t *testing.T) {
	for _, p := range []api.Program{
		nil, {}, {{Op: 27}}, {{}, {}, {Op: -1}}, {{Op: isa.Set, A: 8}, {}}, {{}, {Op: isa.Exit, A: -1}}, make(api.Program, 65),
	} {
		for _, pc := range []int{lowest, -1, 0, 1, 2, 64, 65, highest} {
			for _, most := range []int{lowest, -1, 0} {
				runs(t, p, context(pc), most, context(pc), Call{}, 0)
			}
			for _, most := range []int{1, 2, 100, highest} {
				runs(t, p, context(pc), most, context(pc), exit, 1)
			}
		}
	}
}

// P13.2: a program without a call goes on for as many steps as are asked for.
func TestRunWithoutCall(t *testing.T) {
	p := api.Program{{Op: isa.Set, A: 1, B: 1}, {Op: isa.Add, A: 0, B: 1}, {Op: isa.Jump, A: 1}}
	for _, n := range []int{1, 2, 10, 1000, 100000} {
		runs(t, p, Fresh(0, 0), 1+2*n, api.Context{PC: 1, Regs: [8]int{n, 1}}, Call{}, 1+2*n)
		runs(t, p, Fresh(0, 0), 2*n, api.Context{PC: 2, Regs: [8]int{n, 1}}, Call{}, 2*n)
	}
	p = api.Program{{Op: isa.Loop, A: 0, B: 0}, {Op: isa.Yield}}
	runs(t, p, Fresh(0, 200000), highest, api.Context{PC: 2}, Call{Op: isa.Yield}, 200001)
	runs(t, p, Fresh(0, 0), 300000, api.Context{Regs: [8]int{-300000}}, Call{}, 300000)
}

// P13.2
func TestFresh(t *testing.T) {
	numbers := []int{lowest, -1, 0, 1, 7, 8, 65536, highest}
	for _, program := range numbers {
		for _, value := range numbers {
			want := api.Context{Program: program, PC: 0, Regs: [8]int{value, 0, 0, 0, 0, 0, 0, 0}, Depth: 0}
			if got := Fresh(program, value); got != want {
				t.Errorf("Fresh(%d, %d): %+v, want %+v", program, value, got, want)
			}
		}
	}
}

// P13.2
func TestSafe(t *testing.T) {
	for _, x := range []struct {
		depth int
		want  bool
	}{{lowest, false}, {-1, false}, {0, true}, {1, false}, {2, false}, {8, false}, {9, false}, {highest, false}} {
		for _, c := range []api.Context{deep(0, x.depth), deep(-1, x.depth), {Depth: x.depth}} {
			if got := Safe(c); got != x.want {
				t.Errorf("Safe(%+v): %v, want %v", c, got, x.want)
			}
		}
	}
}
