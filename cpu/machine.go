package cpu

import (
	"wherry/api"
	"wherry/isa"
)

const (
	errorRegister = 7 // where a thread finds the error of its call
	deepest       = 8 // how many sections are counted
)

// machine is a context with the code that it goes through.
type machine struct {
	api.Context
	code api.Program
}

// load tells a machine that goes through p. Of a program that is not Whole it has
// no code, so that there is no instruction at any place. That is asked once here,
// not at each of many steps.
func load(p api.Program, c api.Context) machine {
	if !isa.Whole(p) {
		p = nil
	}
	return machine{Context: c, code: p}
}

func isRegister(r int) bool {
	return r >= 0 && r < api.MaxRegs
}

// get tells a register's number; 0 of one that there is not.
func (m *machine) get(r int) int {
	if !isRegister(r) {
		return 0
	}
	return m.Regs[r]
}

// put does nothing to a register that there is not.
func (m *machine) put(r, value int) {
	if isRegister(r) {
		m.Regs[r] = value
	}
}

// branch goes to a place, if it is to.
func (m *machine) branch(to int, goes bool) {
	if goes {
		m.PC = to
	}
}

// step does the instruction at PC and tells its call.
func (m *machine) step() Call {
	if m.PC < 0 || m.PC >= len(m.code) {
		return Call{Op: isa.Exit}
	}
	in := m.code[m.PC]
	m.PC++
	return m.do(in)
}

// do does an instruction behind which PC stands already. Registers go round, as
// ints do: they are numbers modulo 2^64.
func (m *machine) do(in api.Instr) Call {
	get, put := m.get, m.put
	switch in.Op {
	case isa.Nop:
	case isa.Set:
		put(in.A, in.B)
	case isa.Add:
		put(in.A, get(in.A)+get(in.B))
	case isa.Sub:
		put(in.A, get(in.A)-get(in.B))
	case isa.Copy:
		put(in.A, get(in.B))
	case isa.Less:
		put(in.A, one(get(in.B) < get(in.C)))
	case isa.Jump:
		m.branch(in.A, true)
	case isa.Zero:
		m.branch(in.B, get(in.A) == 0)
	case isa.Loop:
		put(in.A, get(in.A)-1)
		m.branch(in.B, get(in.A) != 0)
	case isa.Enter:
		m.Depth += one(m.Depth < deepest)
	case isa.Leave:
		m.Depth -= one(m.Depth > 0)
	case isa.Exit, isa.Join:
		return Call{Op: in.Op, A: get(in.A), B: in.B, C: in.C}
	default:
		return Call{Op: in.Op, A: in.A, B: in.B, C: in.C}
	}
	return Call{}
}

// one tells 1 of what is so, and 0 of what is not.
func one(so bool) int {
	if so {
		return 1
	}
	return 0
}
