package isa

import (
	"slices"
	"strings"
	"testing"

	"wherry/api"
)

// printed holds Print against what is wanted, and Scan of that against the program.
func printed(t *testing.T, p api.Program, want string) {
	t.Helper()
	if got := Print(p); got != want {
		t.Errorf("Print(%v): %q, want %q", p, got, want)
	}
	if Whole(p) {
		says(t, want, p...)
	}
}

// scanned holds Scan's answer against what is wanted.
func scanned(t *testing.T, s string, p api.Program, line int, err api.Errno) {
	t.Helper()
	if got, n, e := Scan(s); !slices.Equal(got, p) || n != line || e != err {
		t.Errorf("Scan(%q): %v, %d, %v, want %v, %d, %v", s, got, n, e, p, line, err)
	}
}

// says looks that a text is this program.
func says(t *testing.T, s string, p ...api.Instr) {
	t.Helper()
	scanned(t, s, p, 0, api.OK)
}

// wrong looks that a line is refused with that error and its number, alone and
// among others.
func wrong(t *testing.T, line string, err api.Errno) {
	t.Helper()
	scanned(t, line, nil, 1, err)
	scanned(t, line+"\n", nil, 1, err)
	scanned(t, line+"\nnop\n", nil, 1, err)
	scanned(t, "\n"+line, nil, 2, err)
	scanned(t, "nop\n"+line+"\n", nil, 2, err)
	scanned(t, "# a remark\n\n   \nnop\n#\n"+line+"\nexit 0", nil, 6, err)
	scanned(t, "\n\n\n\n\n\n\n\n\n\n\n"+line+"\n"+line, nil, 12, err)
}

// P12.3, P12.4: of each operation.
func TestPrint(t *testing.T) {
	printed(t, nil, "")
	printed(t, api.Program{}, "")
	printed(t, api.Program{{Op: Set, A: 0, B: 5}, {Op: Loop, A: 0, B: 1}, {Op: Exit}}, "set 0 5\nloop 0 1\nexit 0\n")
	for _, c := range []struct {
		in   api.Instr
		want string
	}{
		{api.Instr{Op: Nop}, "nop"},
		{api.Instr{Op: Set, A: 7, B: -far}, "set 7 -1099511627776"},
		{api.Instr{Op: Set, A: 7, B: far}, "set 7 1099511627776"},
		{api.Instr{Op: Set, A: 1, B: -1}, "set 1 -1"},
		{api.Instr{Op: Add, A: 1, B: 2}, "add 1 2"},
		{api.Instr{Op: Sub, A: 2, B: 1}, "sub 2 1"},
		{api.Instr{Op: Copy, A: 3, B: 7}, "copy 3 7"},
		{api.Instr{Op: Less, A: 1, B: 2, C: 3}, "less 1 2 3"},
		{api.Instr{Op: Jump, A: 1}, "jump 1"},
		{api.Instr{Op: Zero, A: 3, B: 1}, "zero 3 1"},
		{api.Instr{Op: Loop, A: 4, B: 0}, "loop 4 0"},
		{api.Instr{Op: Enter}, "enter"},
		{api.Instr{Op: Leave}, "leave"},
		{api.Instr{Op: Exit, A: 7}, "exit 7"},
		{api.Instr{Op: Yield}, "yield"},
		{api.Instr{Op: Spawn, A: 7, B: 65536, C: 3}, "spawn 7 65536 3"},
		{api.Instr{Op: Spawn, A: 0, B: 1, C: 7}, "spawn 0 1 7"},
		{api.Instr{Op: Join, A: 1, C: 2}, "join 1 2"},
		{api.Instr{Op: Lock, A: 3}, "lock 3"},
		{api.Instr{Op: Unlock, A: 2}, "unlock 2"},
		{api.Instr{Op: Wait, A: 3, B: 1}, "wait 3 1"},
		{api.Instr{Op: Signal, A: 1}, "signal 1"},
		{api.Instr{Op: Cast}, "cast 0"},
		{api.Instr{Op: Down, A: 2}, "down 2"},
		{api.Instr{Op: Up, A: 3}, "up 3"},
		{api.Instr{Op: Sleep, A: 1000}, "sleep 1000"},
		{api.Instr{Op: Read, A: 0, C: 5}, "read 0 5"},
		{api.Instr{Op: Write, A: 1000, C: 1}, "write 1000 1"},
		{api.Instr{Op: Self, C: 6}, "self 6"},
		{api.Instr{Op: Time, C: 7}, "time 7"},
	} {
		printed(t, api.Program{c.in}, c.want+"\n")
		printed(t, api.Program{{Op: Exit, A: 1}, c.in, {Op: Yield}}, "exit 1\n"+c.want+"\nyield\n")
		says(t, c.want, c.in)
	}
}

// P12.3: as many as may be, and one more.
func TestPrintOfMany(t *testing.T) {
	printed(t, filled(64), strings.Repeat("nop\n", 64))
	printed(t, filled(65), "")
	printed(t, filled(300), "")
	long := with(api.Instr{}, 0, 64)
	for i := range long {
		long[i] = api.Instr{Op: Set, A: 7, B: -far}
	}
	printed(t, long, strings.Repeat("set 7 -1099511627776\n", 64))
}

// P12.3: nothing of a program that is not Whole, wherever the fault is.
func TestPrintOfNotWhole(t *testing.T) {
	for _, in := range []api.Instr{
		{Op: -1}, {Op: 27}, {Op: lowest}, {Op: highest}, {Op: Exit, A: 8}, {Op: Exit, B: 1}, {Op: Set, B: far + 1},
		{Op: Jump, A: 10}, {Op: Nop, C: 1}, {Op: Join, B: 1}, {Op: Spawn}, {Op: Sleep}, {Op: Self, A: 1},
	} {
		for _, p := range []api.Program{{in}, with(in, 0, 9), with(in, 4, 9), with(in, 8, 9)} {
			printed(t, p, "")
		}
	}
}

// P12.3: texts that say the same.
func TestScan(t *testing.T) {
	p := api.Program{{Op: Set, A: 0, B: 5}, {Op: Loop, A: 0, B: 1}, {Op: Exit}}
	for _, s := range []string{
		"set 0 5\nloop 0 1\nexit 0\n",
		"set 0 5\nloop 0 1\nexit 0",
		"set 0 5\n\nloop 0 1\nexit 0\n\n\n",
		"\n\nset 0 5\nloop 0 1\n\n\n\nexit 0",
		"   \nset 0 5\n \nloop 0 1\nexit 0\n     ",
		"# first\nset 0 5\n#\nloop 0 1\n# exit 1\n#exit 2\n##\nexit 0\n#",
		"#\xff\x00\t\nset 0 5\nloop 0 1\nexit 0\n#é",
		" set 0 5\n   loop 0 1\n exit 0",
		"set 0 5 \nloop 0 1   \nexit 0 ",
		"set  0   5\nloop    0 1\nexit  0",
		"  set  0  5  \n  loop  0  1  \n  exit  0  \n",
		"set 00 005\nloop -0 01\nexit -000",
		"set 00000000000000 00000000000005\nloop -00000000000000 00000000000001\nexit 0",
	} {
		says(t, s, p...)
	}
}

// P12.3: texts that say nothing.
func TestScanOfNothing(t *testing.T) {
	for _, s := range []string{
		"", "\n", "\n\n\n", " ", "    ", " \n", "\n ", "  \n   \n", "#", "#\n", "# \n#", "#set 0 5", "# nop\n\n  \n",
		strings.Repeat("\n", 4096), strings.Repeat(" ", 4096), strings.Repeat("#", 4096),
	} {
		says(t, s)
	}
}

// P12.3: how long a text may be, whatever stands there.
func TestScanOfLongTexts(t *testing.T) {
	for _, c := range []string{"\n", " ", "#", "x", "nop\n", "exit 8\n", "\xff"} {
		for _, n := range []int{4097, 4098, 5000, 100000} {
			scanned(t, strings.Repeat(c, n)[:n], nil, 0, api.ErrLong)
		}
	}
	says(t, "exit 3"+strings.Repeat("\n", 4090), api.Instr{Op: Exit, A: 3})
	scanned(t, "exit 3"+strings.Repeat("\n", 4091), nil, 0, api.ErrLong)
	says(t, strings.Repeat("\n", 4090)+"exit 3", api.Instr{Op: Exit, A: 3})
	scanned(t, strings.Repeat("\n", 4091)+"exit 3", nil, 0, api.ErrLong)
	says(t, "#"+strings.Repeat("x", 4088)+"\nexit 3", api.Instr{Op: Exit, A: 3})
	scanned(t, strings.Repeat("\n", 4092)+"exit", nil, 4093, api.ErrLine)
	scanned(t, strings.Repeat("\n", 4090)+"exit 8", nil, 4091, api.ErrBad)
	// Bytes count, not runes.
	scanned(t, "#"+strings.Repeat("é", 2048), nil, 0, api.ErrLong)
	says(t, "#"+strings.Repeat("é", 2047))
}

// P12.3: lines that are none.
func TestScanOfLinesThatAreNone(t *testing.T) {
	for _, line := range []string{
		// names
		"x", "-", "0", "5 nop", "no", "nopp", "Nop", "NOP", "exit0", "exit0 0", "nop#", "sets 0 5", "e xit 0", "- nop", "é",
		"---", "r--", ".", "nop.", "nop,", "\x00", "\xff",
		// what is no blank, and no line's end
		"nop\t", "\tnop", "\t", "exit\t0", "exit 0\r", "\r", "\v", "\f", "nop\u00a0", "nop\u2028nop", "nop;nop",
		// a # that doesn't begin the line
		" #", " # nop", "nop # nothing", "nop #", "exit # 0", "exit 0#", "exit #0",
		// too few numbers
		"exit", "set", "set 0", "add 1", "less 0 1", "less", "jump", "zero 1", "spawn 0 1", "spawn", "join 0", "wait 0",
		"sleep", "read 5", "write", "self", "time", "lock",
		// too many
		"nop 0", "enter 0", "leave 1", "yield 0", "exit 0 0", "set 0 5 0", "less 0 1 2 3", "jump 0 0", "spawn 0 1 2 3",
		"join 0 0 0", "read 0 0 0", "self 0 0 0", "time 0 0", "exit 0 nop", "nop nop",
		// words that are no numbers
		"exit -", "exit --1", "exit +1", "exit 1-", "exit 0x1", "exit a", "exit 1a", "exit 1_0", "exit 1.0", "exit 1e0",
		"exit ٣", "exit \xff", "exit - 1", "set 0 -", "set - 5", "set 0 5-", "exit '1'", "exit 1,", "exit \x00", "exit 0\x00", "exit /", "exit :",
		// digits
		"exit 000000000000000", "exit 100000000000000", "exit -100000000000000", "exit -000000000000000", "set 0 000000000000005",
		"exit 99999999999999999999999999999999999", "set 0 9223372036854775808", "set 0 -9223372036854775808",
	} {
		wrong(t, line, api.ErrLine)
	}
}

// P12.3: lines whose instructions are not Good.
func TestScanOfBadInstructions(t *testing.T) {
	for _, line := range []string{
		"exit 8", "exit -1", "exit 10000000000000", "exit 99999999999999", "exit -99999999999999",
		"set 8 0", "set 0 1099511627777", "set 0 -1099511627777", "set 0 99999999999999", "set 0 -99999999999999",
		"add 0 8", "add -1 0", "less 0 0 8", "less 0 8 0", "jump -1", "jump 9", "zero 0 9", "loop 8 0", "loop 0 -1",
		"spawn 8 1 0", "spawn 0 0 0", "spawn 0 65537 0", "spawn 0 1 8", "spawn -1 1 0", "join 8 0", "join 0 8",
		"lock 4", "unlock -1", "wait 0 4", "wait 4 0", "signal 4", "cast 4", "down 4", "up 4",
		"sleep 0", "sleep 1001", "sleep -1", "read 1001 0", "read -1 0", "write 0 8", "self 8", "self -1", "time 8",
	} {
		wrong(t, line, api.ErrBad)
	}
}

// P12.3: ErrLine ahead of ErrBad wherever the lines stand, and of each the first.
func TestScanErrorsInOrder(t *testing.T) {
	scanned(t, "exit 8\nnop\nexit", nil, 3, api.ErrLine)
	scanned(t, "exit\nnop\nexit 8", nil, 1, api.ErrLine)
	scanned(t, "exit 8\n\nexit 9\n#\nx\n\ny", nil, 5, api.ErrLine)
	scanned(t, "nop\n\nexit 8\nexit 9", nil, 3, api.ErrBad)
	scanned(t, "#\nset 0 1099511627777\nexit 9", nil, 2, api.ErrBad)
	many := strings.Repeat("nop\n", 70)
	scanned(t, many, nil, 0, api.ErrLong)
	scanned(t, many+"exit", nil, 71, api.ErrLine)
	scanned(t, many+"exit 8", nil, 71, api.ErrBad)
	scanned(t, "exit 8\n"+many, nil, 1, api.ErrBad)
	scanned(t, "exit 8\n"+many+"exit", nil, 72, api.ErrLine)
	// A text that is too long is that, whatever its lines are.
	room := strings.Repeat("\n", 4097)
	scanned(t, "exit"+room, nil, 0, api.ErrLong)
	scanned(t, "exit 8"+room, nil, 0, api.ErrLong)
	scanned(t, many+"exit\nexit 8"+room, nil, 0, api.ErrLong)
}

// P12.3: how many instructions there may be; lines that say nothing don't count.
func TestScanOfMany(t *testing.T) {
	says(t, strings.Repeat("nop\n", 64), filled(64)...)
	says(t, strings.Repeat("nop\n#\n\n  \n", 64), filled(64)...)
	for _, n := range []int{65, 66, 100, 1024} {
		scanned(t, strings.Repeat("nop\n", n), nil, 0, api.ErrLong)
	}
}

// P12.3: places of a text are those of the whole program, also ahead of its end.
func TestScanPlaces(t *testing.T) {
	says(t, "jump 2\n#\nnop", api.Instr{Op: Jump, A: 2}, api.Instr{})
	scanned(t, "jump 3\n#\nnop", nil, 1, api.ErrBad)
	says(t, "jump 64\n"+strings.Repeat("nop\n", 63), with(api.Instr{Op: Jump, A: 64}, 0, 64)...)
	scanned(t, "jump 64\n"+strings.Repeat("nop\n", 62), nil, 1, api.ErrBad)
	// Of a program that is too long, too: only then it is that.
	scanned(t, "jump 70\n"+strings.Repeat("nop\n", 69), nil, 0, api.ErrLong)
	scanned(t, "jump 71\n"+strings.Repeat("nop\n", 69), nil, 1, api.ErrBad)
}

// P12.3: numbers of so many digits, which only then are looked at.
func TestScanDigits(t *testing.T) {
	says(t, "set 0 00000000000001", api.Instr{Op: Set, B: 1})
	says(t, "set 0 -00000000000001", api.Instr{Op: Set, B: -1})
	says(t, "set 0 01099511627776", api.Instr{Op: Set, B: far})
	says(t, "set 0 -01099511627776", api.Instr{Op: Set, B: -far})
	says(t, "set 0 1234567890", api.Instr{Op: Set, B: 1234567890})
	says(t, "set 0 -0", api.Instr{Op: Set})
	wrong(t, "set 0 001099511627776", api.ErrLine)
	wrong(t, "set 0 -001099511627776", api.ErrLine)
}

// R3: what is told is new memory.
func TestScanMemory(t *testing.T) {
	want := api.Program{{Op: Set, A: 0, B: 5}, {Op: Exit}}
	const s = "set 0 5\nexit 0"
	first, _, _ := Scan(s)
	second, _, _ := Scan(s)
	clear(first[:cap(first)])
	if !slices.Equal(second, want) {
		t.Errorf("the other one: %v, want %v", second, want)
	}
	says(t, s, want...)
}
