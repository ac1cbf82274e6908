package isa

import (
	"math"
	"slices"
	"strings"
	"testing"

	"wherry/api"
)

const (
	lowest  = math.MinInt
	highest = math.MaxInt
	far     = 1 << 40
)

// operations are all of them, with what the chapter says of each.
func operations() []struct {
	op, number  int
	name, shape string
} {
	return []struct {
		op, number  int
		name, shape string
	}{
		{Nop, 0, "nop", "---"}, {Set, 1, "set", "rv-"}, {Add, 2, "add", "rr-"}, {Sub, 3, "sub", "rr-"},
		{Copy, 4, "copy", "rr-"}, {Less, 5, "less", "rrr"}, {Jump, 6, "jump", "t--"}, {Zero, 7, "zero", "rt-"},
		{Loop, 8, "loop", "rt-"}, {Enter, 9, "enter", "---"}, {Leave, 10, "leave", "---"}, {Exit, 11, "exit", "r--"},
		{Yield, 12, "yield", "---"}, {Spawn, 13, "spawn", "pkr"}, {Join, 14, "join", "r-r"}, {Lock, 15, "lock", "o--"},
		{Unlock, 16, "unlock", "o--"}, {Wait, 17, "wait", "oo-"}, {Signal, 18, "signal", "o--"}, {Cast, 19, "cast", "o--"},
		{Down, 20, "down", "o--"}, {Up, 21, "up", "o--"}, {Sleep, 22, "sleep", "n--"}, {Read, 23, "read", "s-r"},
		{Write, 24, "write", "s-r"}, {Self, 25, "self", "--r"}, {Time, 26, "time", "--r"},
	}
}

// none are numbers that are no operation.
func none() []int {
	return []int{lowest, lowest + 11, -256, -27, -26, -1, 27, 28, 255, 256, 256 + 11, 1 << 32, highest - 1, highest}
}

// filled is a program of so many instructions that do nothing.
func filled(n int) api.Program {
	return make(api.Program, n)
}

// with is a program of so many instructions, with this one at i.
func with(in api.Instr, i, n int) api.Program {
	p := filled(n)
	p[i] = in
	return p
}

// spare is p with room behind its end in which something stands, all of which is
// told, too.
func spare(p api.Program) (api.Program, api.Program) {
	all := append(slices.Clone(p), api.Instr{Op: 9, A: 9, B: 9, C: 9}, api.Instr{Op: 8, A: 8, B: 8, C: 8})
	return all[:len(p)], all
}

// P12.1
func TestNumbersOfOperations(t *testing.T) {
	for _, o := range operations() {
		if o.op != o.number {
			t.Errorf("%s: %d, want %d", o.name, o.op, o.number)
		}
	}
}

// P12.1
func TestShapeNameAndCall(t *testing.T) {
	for op, o := range operations() {
		if got := Shape(op); got != o.shape {
			t.Errorf("Shape(%d): %q, want %q", op, got, o.shape)
		}
		if got := Name(op); got != o.name {
			t.Errorf("Name(%d): %q, want %q", op, got, o.name)
		}
		if got, want := Call(op), op >= 11; got != want {
			t.Errorf("Call(%d): %v, want %v", op, got, want)
		}
	}
}

// P12.1, P1
func TestOfNoOperation(t *testing.T) {
	for _, op := range none() {
		if got := Shape(op); got != "" {
			t.Errorf("Shape(%d): %q, want nothing", op, got)
		}
		if got := Name(op); got != "" {
			t.Errorf("Name(%d): %q, want nothing", op, got)
		}
		if Call(op) {
			t.Errorf("Call(%d): true", op)
		}
		if p := (api.Program{{Op: op}}); Good(p, 0) || Whole(p) {
			t.Errorf("an Op %d: Good %v, Whole %v", op, Good(p, 0), Whole(p))
		}
	}
}

// letters are of each letter the least and the greatest number that may be, in a
// program of five instructions.
func letters() map[rune][2]int {
	return map[rune][2]int{
		'-': {0, 0}, 'r': {0, 7}, 'v': {-far, far}, 't': {0, 5}, 'p': {0, 7},
		'k': {1, 65536}, 'o': {0, 3}, 'n': {1, 1000}, 's': {0, 1000},
	}
}

// P12.1, P12.2: of each number of each operation, with the others as small as may
// be, the ends and those just beyond.
func TestGoodAtEnds(t *testing.T) {
	good := func(in api.Instr, want bool) {
		t.Helper()
		p := with(in, 2, 5)
		if got := Good(p, 2); got != want {
			t.Errorf("Good(%s %+v): %v, want %v", Name(in.Op), in, got, want)
		}
		if got := Whole(p); got != want {
			t.Errorf("Whole(%s %+v): %v, want %v", Name(in.Op), in, got, want)
		}
	}
	for op, o := range operations() {
		for i, letter := range o.shape {
			least := [3]int{}
			for k, other := range o.shape {
				least[k] = letters()[other][0]
			}
			try := func(number int, want bool) {
				t.Helper()
				n := least
				n[i] = number
				good(api.Instr{Op: op, A: n[0], B: n[1], C: n[2]}, want)
			}
			ends := letters()[letter]
			try(ends[0], true)
			try(ends[1], true)
			try((ends[0]+ends[1])/2, true)
			for _, beyond := range []int{ends[0] - 1, ends[1] + 1, ends[0] - 1<<32, ends[1] + 1<<32, lowest, highest} {
				try(beyond, false)
			}
		}
	}
}

// P12.1: places go to how many instructions there are, however many.
func TestPlaces(t *testing.T) {
	for _, n := range []int{1, 2, 5, 63, 64, 65, 100} {
		for _, c := range []struct {
			place int
			want  bool
		}{{-1, false}, {0, true}, {1, true}, {n - 1, true}, {n, true}, {n + 1, false}, {lowest, false}, {highest, false}} {
			for _, in := range []api.Instr{{Op: Jump, A: c.place}, {Op: Zero, B: c.place}, {Op: Loop, A: 7, B: c.place}} {
				if got := Good(with(in, n-1, n), n-1); got != c.want {
					t.Errorf("%+v of %d: %v, want %v", in, n, got, c.want)
				}
			}
		}
	}
}

// P12.2: which instructions there are, and that one says nothing of another.
func TestGoodOfWhich(t *testing.T) {
	p := api.Program{{Op: Set, A: 0, B: 5}, {Op: 27}, {Op: Exit}}
	all, _ := spare(append(slices.Clone(p), api.Instr{Op: Exit, A: 8}))
	for _, c := range []struct {
		p    api.Program
		i    int
		want bool
	}{
		{p, 0, true}, {p, 1, false}, {p, 2, true}, {p, 3, false}, {p, 4, false},
		{p, -1, false}, {p, -3, false}, {p, lowest, false}, {p, highest, false}, {p, 1 << 32, false},
		{all, 0, true}, {all, 2, true}, {all, 3, false}, {all, 4, false}, {all, 5, false},
		{nil, 0, false}, {nil, -1, false}, {nil, 1, false}, {nil, lowest, false}, {nil, highest, false},
		{api.Program{}, 0, false}, {api.Program{}, -1, false}, {filled(3)[:0], 0, false}, {filled(3)[:2], 2, false},
		{filled(64), 63, true}, {filled(64), 64, false}, {filled(65), 64, true}, {filled(1000), 999, true}, {filled(1000), 1000, false},
	} {
		if got := Good(c.p, c.i); got != c.want {
			t.Errorf("Good(%v, %d): %v, want %v", c.p, c.i, got, c.want)
		}
	}
}

// P12.2
func TestWhole(t *testing.T) {
	bad := api.Instr{Op: Exit, A: 8}
	for _, c := range []struct {
		name string
		p    api.Program
		want bool
	}{
		{"nil", nil, true}, {"of none", api.Program{}, true}, {"room alone", with(bad, 1, 2)[:0], true},
		{"of one", filled(1), true}, {"of MaxCode", filled(64), true},
		{"of one more", filled(65), false}, {"of many", filled(5000), false},
		{"bad alone", api.Program{bad}, false}, {"bad first", with(bad, 0, 9), false},
		{"bad within", with(bad, 4, 9), false}, {"bad last", with(bad, 8, 9), false},
		{"bad last of MaxCode", with(bad, 63, 64), false}, {"bad behind the end", with(bad, 8, 9)[:8], true},
		{"example", api.Program{{Op: Set, A: 0, B: 5}, {Op: Loop, A: 0, B: 1}, {Op: Exit}}, true},
		{"a place cut off", with(api.Instr{Op: Jump, A: 9}, 0, 9)[:8], false},
		{"a place that stays", with(api.Instr{Op: Jump, A: 8}, 0, 9)[:8], true},
	} {
		if got := Whole(c.p); got != c.want {
			t.Errorf("%s: %v, want %v", c.name, got, c.want)
		}
	}
}

// P12.2: alike in each number, also of programs that are not Whole.
func TestSame(t *testing.T) {
	p := api.Program{{Op: Set, A: 0, B: 5}, {Op: 99, A: 1, B: 2, C: 3}, {Op: Exit, A: 70}}
	same := func(what string, a, b api.Program, want bool) {
		t.Helper()
		if Same(a, b) != want || Same(b, a) != want {
			t.Errorf("%s: %v, %v, want %v", what, Same(a, b), Same(b, a), want)
		}
	}
	same("itself", p, p, true)
	same("a copy", p, slices.Clone(p), true)
	same("nil and nil", nil, nil, true)
	same("nil and none", nil, api.Program{}, true)
	same("none and room", api.Program{}, p[:0], true)
	same("nil and one", nil, p[:1], false)
	same("one less", p, p[:2], false)
	same("another order", p, api.Program{p[1], p[0], p[2]}, false)
	same("long ones", filled(100), filled(100), true)
	same("long ones, one more", filled(100), filled(101), false)
	for i := range p {
		for k := range 4 {
			q := slices.Clone(p)
			*[]*int{&q[i].Op, &q[i].A, &q[i].B, &q[i].C}[k]++
			same("another number", p, q, false)
		}
	}
	cut, _ := spare(p)
	same("another room", p, cut, true)
}

// P12.2, P12.3, R3: what is handed in is not changed, nor the room behind it.
func TestProgramsStay(t *testing.T) {
	for _, p := range []api.Program{
		nil, filled(64), filled(65),
		{{Op: Set, A: 0, B: 5}, {Op: Loop, A: 0, B: 1}, {Op: Exit}},
		{{Op: Spawn, A: 1, B: 1, C: 1}, {Op: Self, A: 1}, {Op: 44, A: 3}},
	} {
		cut, all := spare(p)
		was := slices.Clone(all)
		for i := range len(p) + 2 {
			Good(cut, i-1)
		}
		Whole(cut)
		Bytes(cut)
		Print(cut)
		Same(cut, p)
		Same(p, cut)
		if !slices.Equal(all, was) {
			t.Errorf("changed: %v, was %v", all, was)
		}
	}
}

// P12.1: no two have one name, and each is such that a text can have it.
func TestNames(t *testing.T) {
	seen := map[string]int{}
	for op := range len(operations()) {
		name := Name(op)
		if was, ok := seen[name]; ok || name == "" || strings.Trim(name, "abcdefghijklmnopqrstuvwxyz") != "" {
			t.Errorf("Name(%d): %q, %v %v", op, name, was, ok)
		}
		seen[name] = op
	}
}
