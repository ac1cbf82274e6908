package cpu

import (
	"math/big"
	"math/rand"
	"slices"
	"testing"

	"wherry/api"
	"wherry/isa"
)

// The tests of this file hold all calls against plain answers, by drawn programs and
// contexts, the same ones each time. A call that panicked there would fail them too
// (P1).

// round tells a number of any length modulo 2^64, from -2^63 on.
func round(x *big.Int) int {
	half := new(big.Int).Lsh(big.NewInt(1), 63)
	all := new(big.Int).Lsh(big.NewInt(1), 64)
	x = new(big.Int).Add(x, half)
	x.Mod(x, all)
	return int(x.Sub(x, half).Int64())
}

func plainSum(a, b int) int {
	return round(new(big.Int).Add(big.NewInt(int64(a)), big.NewInt(int64(b))))
}

func plainDifference(a, b int) int {
	return round(new(big.Int).Sub(big.NewInt(int64(a)), big.NewInt(int64(b))))
}

// plainStep is Step, by the names of operations, of programs that are Whole or not.
func plainStep(p api.Program, c api.Context) (api.Context, Call) {
	if !isa.Whole(p) || c.PC < 0 || c.PC >= len(p) {
		return c, Call{11, 0, 0, 0}
	}
	in := p[c.PC]
	old := c.Regs
	next := c
	next.PC = c.PC + 1
	switch isa.Name(in.Op) {
	case "nop":
	case "set":
		next.Regs[in.A] = in.B
	case "add":
		next.Regs[in.A] = plainSum(old[in.A], old[in.B])
	case "sub":
		next.Regs[in.A] = plainDifference(old[in.A], old[in.B])
	case "copy":
		next.Regs[in.A] = old[in.B]
	case "less":
		next.Regs[in.A] = 0
		if old[in.B] < old[in.C] {
			next.Regs[in.A] = 1
		}
	case "jump":
		next.PC = in.A
	case "zero":
		if old[in.A] == 0 {
			next.PC = in.B
		}
	case "loop":
		next.Regs[in.A] = plainDifference(old[in.A], 1)
		if old[in.A] != 1 {
			next.PC = in.B
		}
	case "enter":
		if c.Depth < 8 {
			next.Depth = c.Depth + 1
		}
	case "leave":
		if c.Depth > 0 {
			next.Depth = c.Depth - 1
		}
	case "exit", "join":
		return next, Call{in.Op, old[in.A], in.B, in.C}
	default:
		return next, Call{in.Op, in.A, in.B, in.C}
	}
	return next, Call{}
}

// plainGive is Give, by a list of what is put, one behind the other.
func plainGive(c api.Context, k Call, value int, e api.Errno) api.Context {
	type put struct{ register, value int }
	l := []put{{7, int(e)}}
	if slices.Contains([]string{"spawn", "join", "read", "write", "self", "time"}, isa.Name(k.Op)) {
		if e != 0 {
			value = 0
		}
		l = []put{{k.C, value}, {7, int(e)}}
	}
	for _, x := range l {
		for r := range c.Regs {
			if r == x.register {
				c.Regs[r] = x.value
			}
		}
	}
	return c
}

// drawnNumber is often near to where something changes.
func drawnNumber(source *rand.Rand) int {
	switch source.Intn(6) {
	case 0:
		return []int{lowest, lowest + 1, -1 << 40, -1 << 62, 1 << 62, 1 << 40, highest - 1, highest}[source.Intn(8)]
	case 1:
		return int(source.Uint64())
	}
	return source.Intn(9) - 4
}

func drawnContext(source *rand.Rand, length int) api.Context {
	c := api.Context{Program: drawnNumber(source), PC: source.Intn(length + 1), Depth: source.Intn(12) - 1}
	for r := range c.Regs {
		c.Regs[r] = drawnNumber(source)
	}
	if source.Intn(20) == 0 {
		c.PC = drawnNumber(source)
	}
	if source.Intn(20) == 0 {
		c.Depth = drawnNumber(source)
	}
	return c
}

// drawnInstr is one that may stand in a program of so many.
func drawnInstr(source *rand.Rand, op, length int) api.Instr {
	in := api.Instr{Op: op}
	for i, letter := range isa.Shape(op) {
		number := 0
		switch letter {
		case 'r', 'p':
			number = source.Intn(8)
		case 'v':
			number = max(-1<<40, min(drawnNumber(source), 1<<40))
		case 't':
			number = source.Intn(length + 1)
		case 'k':
			number = 1 + source.Intn(65536)
		case 'o':
			number = source.Intn(4)
		case 'n':
			number = 1 + source.Intn(1000)
		case 's':
			number = source.Intn(1001)
		}
		*[]*int{&in.A, &in.B, &in.C}[i] = number
	}
	return in
}

// drawnProgram is Whole; of 100 instructions about so many are calls.
func drawnProgram(source *rand.Rand, calls int) api.Program {
	p := make(api.Program, 1+source.Intn(64))
	if source.Intn(2) == 0 {
		p = p[:1+source.Intn(min(5, len(p)))]
	}
	for i := range p {
		op := source.Intn(isa.Exit)
		if source.Intn(100) < calls {
			op = isa.Exit + source.Intn(isa.Time-isa.Exit+1)
		}
		p[i] = drawnInstr(source, op, len(p))
	}
	return p
}

// spoilt is p with a number somewhere that is mostly none that may be.
func spoilt(source *rand.Rand, p api.Program) api.Program {
	p = slices.Clone(p)
	in := &p[source.Intn(len(p))]
	*[]*int{&in.Op, &in.A, &in.B, &in.C}[source.Intn(4)] = drawnNumber(source)
	return p
}

// P13.1, P1
func TestDrawnSteps(t *testing.T) {
	source := rand.New(rand.NewSource(1))
	met := map[int]int{}
	for range 20000 {
		p := drawnProgram(source, 50)
		if source.Intn(8) == 0 {
			p = spoilt(source, p)
		}
		c := drawnContext(source, len(p))
		want, call := plainStep(p, c)
		steps(t, p, c, want, call)
		if isa.Whole(p) && c.PC >= 0 && c.PC < len(p) {
			met[p[c.PC].Op]++
		}
	}
	if len(met) != 27 {
		t.Errorf("%d operations were met: %v", len(met), met)
	}
}

// P13.1, P13.2: a thread goes on for long, and gets something at each call.
func TestDrawnLongRuns(t *testing.T) {
	for seed := range int64(60) {
		source := rand.New(rand.NewSource(seed))
		p := drawnProgram(source, 20)
		c := drawnContext(source, len(p))
		plain := c
		for range 3000 {
			var k, call Call
			c, k = Step(p, c)
			plain, call = plainStep(p, plain)
			if c != plain || k != call {
				t.Fatalf("seed %d, %v: %+v, %+v, want %+v, %+v", seed, p, c, k, plain, call)
			}
			if k.Op == isa.Exit {
				c.PC, plain.PC = 0, 0
			} else if k != (Call{}) {
				value, e := drawnNumber(source), api.Errno(max(0, source.Intn(28)-14))
				c, plain = Give(c, k, value, e), plainGive(plain, call, value, e)
			}
			if c != plain {
				t.Fatalf("seed %d, %v: Give of %+v: %+v, want %+v", seed, p, k, c, plain)
			}
		}
	}
}

// P13.2, P1
func TestDrawnGives(t *testing.T) {
	source := rand.New(rand.NewSource(2))
	for range 50000 {
		c := drawnContext(source, 9)
		k := Call{source.Intn(29) - 1, drawnNumber(source), drawnNumber(source), source.Intn(10) - 1}
		if source.Intn(10) == 0 {
			k.Op, k.C = drawnNumber(source), drawnNumber(source)
		}
		value, e := drawnNumber(source), api.Errno(max(0, source.Intn(28)-14))
		if got, want := Give(c, k, value, e), plainGive(c, k, value, e); got != want {
			t.Fatalf("Give(%+v, %+v, %d, %d): %+v, want %+v", c, k, value, int(e), got, want)
		}
	}
}

// plainRun is Run, by Steps.
func plainRun(p api.Program, c api.Context, most int) (api.Context, Call, int) {
	n := 0
	k := Call{}
	for n < most && k.Op < 11 {
		c, k = plainStep(p, c)
		n++
	}
	return c, k, n
}

// P13.2, P1
func TestDrawnRuns(t *testing.T) {
	source := rand.New(rand.NewSource(3))
	for range 3000 {
		p := drawnProgram(source, 10)
		if source.Intn(8) == 0 {
			p = spoilt(source, p)
		}
		c := drawnContext(source, len(p))
		most := source.Intn(60) - 3
		want, call, n := plainRun(p, c, most)
		runs(t, p, c, most, want, call, n)
	}
}

// P13.3: Run of some steps, and then of others, is Run of both, if no call comes
// first.
func TestRunGoesOn(t *testing.T) {
	source := rand.New(rand.NewSource(4))
	without := 0
	for range 5000 {
		p := drawnProgram(source, 5)
		c := drawnContext(source, len(p))
		some, others := source.Intn(60)-3, source.Intn(60)-3
		middle, k, n := Run(p, c, some)
		if k != (Call{}) {
			runs(t, p, c, some+1, middle, k, n)
			continue
		}
		without++
		if n != max(some, 0) {
			t.Errorf("Run(%v, %+v, %d): %d steps without a call", p, c, some, n)
		}
		end, k, m := Run(p, middle, others)
		runs(t, p, c, max(some, 0)+max(others, 0), end, k, n+m)
	}
	if without < 1000 {
		t.Errorf("only %d times no call came first", without)
	}
}

// P13.3: a step changes two registers at most; what it changes, it changes alone.
func TestStepChangesFewRegisters(t *testing.T) {
	source := rand.New(rand.NewSource(5))
	for range 20000 {
		p := drawnProgram(source, 30)
		if source.Intn(4) == 0 {
			p = spoilt(source, p)
		}
		c := drawnContext(source, len(p))
		before, program := c, slices.Clone(p)
		next, k := Step(p, c)
		again, call := Step(p, c)
		if next != again || k != call {
			t.Errorf("Step(%v, %+v): %+v, %+v, then %+v, %+v", p, c, next, k, again, call)
		}
		changed := 0
		for r := range next.Regs {
			if next.Regs[r] != c.Regs[r] {
				changed++
			}
		}
		if changed > 2 || next.Program != c.Program {
			t.Errorf("Step(%v, %+v): %+v", p, c, next)
		}
		if c != before || !slices.Equal(p, program) {
			t.Errorf("%v, %+v became %v, %+v", program, before, p, c)
		}
	}
}
