package thread_test

import (
	"fmt"
	"math"
	"slices"
	"strconv"
	"strings"
	"testing"

	"wherry/api"
	"wherry/thread"
)

const (
	lowest      = math.MinInt
	highest     = math.MaxInt
	mostThreads = 32
	mostTickets = 65536
	mostAge     = 1<<31 - 1
	ages        = 3 // the ids of which holds asks have ages from 1 on to that one
)

// states are the names of the four states, as told writes them.
var states = map[int]string{
	thread.Ready:   "ready",
	thread.Running: "running",
	thread.Waiting: "waiting",
	thread.Kernel:  "kernel",
}

// id is the id of an index and an age.
func id(index, age int) int {
	return age*65536 + index
}

// odd are numbers that are no ids, or whose place isn't below most.
func odd(most int) []int {
	return []int{
		lowest, lowest + 1, -1 << 47, -65537, -65536, -2, -1, 0, 1, 2, 31, 65535,
		1 << 47, 1<<47 + 1, 1 << 48, highest - 65535, highest - 1, highest,
		id(most, 1), id(most, 2), id(most, mostAge), id(most+1, 1), -id(0, 1), -id(0, 2),
		id(mostThreads, 1), id(mostThreads, 2), id(4096, 1), id(65535, 1), id(65535, mostAge),
	}
}

// ids are those of places below most, rising.
func ids(most int) []int {
	var l []int
	for age := 1; age <= ages; age++ {
		for place := range most {
			l = append(l, id(place, age))
		}
	}
	return l
}

// context is one of which each part is another number, that hangs on n.
func context(n int) api.Context {
	c := api.Context{Program: n, PC: n + 100, Depth: n + 200}
	for i := range c.Regs {
		c.Regs[i] = n + 300 + i
	}
	return c
}

// number is what a word says: "b12" is the id of place 12 and age 2, "12" is 12.
func number(t *testing.T, word string) int {
	t.Helper()
	if word[0] >= 'a' && word[0] <= 'z' {
		return id(number(t, word[1:]), int(word[0]-'a')+1)
	}
	n, err := strconv.Atoi(word)
	if err != nil {
		t.Fatal(err)
	}
	return n
}

// name is the word of an id, as number takes it.
func name(n int) string {
	if n < 65536 || n/65536 > 26 {
		return strconv.Itoa(n)
	}
	return string(rune('a'+n/65536-1)) + strconv.Itoa(n%65536)
}

// act is a call that may change a Table, and its arguments, from the left; contexts stand
// there by their numbers.
type act struct {
	call    string
	numbers []int
}

// an is the act of these arguments.
func an(call string, numbers ...int) act {
	return act{call, numbers}
}

// acts are those of a text, as in "Spawn 5 1, Run a0, Did a0 6".
func acts(t *testing.T, text string) []act {
	t.Helper()
	var l []act
	for part := range strings.SplitSeq(text, ",") {
		words := strings.Fields(part)
		if len(words) == 0 {
			continue
		}
		a := act{call: words[0]}
		for _, word := range words[1:] {
			a.numbers = append(a.numbers, number(t, word))
		}
		l = append(l, a)
	}
	return l
}

// changes are the calls that change a state, and how they are done.
var changes = map[string]func(x *thread.Table, id int) api.Errno{
	"Run":   (*thread.Table).Run,
	"Yield": (*thread.Table).Yield,
	"Wait":  (*thread.Table).Wait,
	"Trap":  (*thread.Table).Trap,
	"Wake":  (*thread.Table).Wake,
	"Back":  (*thread.Table).Back,
	"End":   (*thread.Table).End,
}

// changeNames are their names.
var changeNames = []string{"Run", "Yield", "Wait", "Trap", "Wake", "Back", "End"}

// does does an act, and tells its answer as a text, as in "a0 ok" or "state".
func does(x *thread.Table, a act) string {
	n := a.numbers
	switch a.call {
	case "Spawn":
		got, err := x.Spawn(context(n[0]), n[1])
		return fmt.Sprint(name(got), " ", err)
	case "Set":
		return fmt.Sprint(x.Set(n[0], context(n[1])))
	case "Did":
		return fmt.Sprint(x.Did(n[0], context(n[1])))
	}
	return fmt.Sprint(changes[a.call](x, n[0]))
}

// answers does an act, and looks at the answer.
func answers(t *testing.T, x *thread.Table, a act, want string) {
	t.Helper()
	if got := does(x, a); got != want {
		t.Errorf("%s%v: %s, want %s", a.call, a.numbers, got, want)
	}
}

// one is what is told of a thread: its id, state, tickets, the number of its context, and
// how much it did.
func one(th thread.Thread) string {
	state, ok := states[th.State]
	if !ok {
		state = strconv.Itoa(th.State)
	}
	number := strconv.Itoa(th.Context.Program)
	if th.Context != context(th.Context.Program) {
		number = fmt.Sprint(th.Context)
	}
	return fmt.Sprint(name(th.Id), " ", state, " ", th.Tickets, " ", number, " ", th.Done)
}

// all is what is told of threads, as in "a0 ready 1 5 0, b1 kernel 2 6 1".
func all(l []thread.Thread) string {
	var parts []string
	for _, th := range l {
		parts = append(parts, one(th))
	}
	return strings.Join(parts, ", ")
}

// holds looks that x tells just those threads, twice; most is how many it has room for.
func holds(t *testing.T, x *thread.Table, most int, want string) {
	t.Helper()
	parts := make(map[int]string)
	for part := range strings.SplitSeq(want, ", ") {
		if word, _, there := strings.Cut(part, " "); there {
			parts[number(t, word)] = part
		}
	}
	for range 2 {
		if got := all(x.All()); got != want {
			t.Errorf("All: %s, want %s", got, want)
		}
		for _, n := range append(ids(most), odd(most)...) {
			gets(t, x, n, parts[n])
		}
		for state, word := range states {
			if got := x.Count(state); got != strings.Count(want, " "+word+" ") {
				t.Errorf("Count(%s): %d of %s", word, got, want)
			}
		}
		for _, state := range []int{lowest, -1 << 32, -4, -1, 0, 5, 6, 8, 64, 65, 1 << 32, 1<<32 + 1, highest} {
			if got := x.Count(state); got != 0 {
				t.Errorf("Count(%d): %d", state, got)
			}
		}
	}
}

// gets looks what Get tells of an id; "": there is no such thread.
func gets(t *testing.T, x *thread.Table, n int, want string) {
	t.Helper()
	got, ok := x.Get(n)
	switch {
	case ok != (want != ""):
		t.Errorf("Get(%s): %v, want %s", name(n), ok, want)
	case ok && one(got) != want:
		t.Errorf("Get(%s): %s, want %s", name(n), one(got), want)
	case !ok && got != thread.Thread{}:
		t.Errorf("Get(%s): false, but %v", name(n), got)
	}
}

// made is New's answer, which may not be nil here.
func made(t *testing.T, most int) *thread.Table {
	t.Helper()
	x := thread.New(most)
	if x == nil {
		t.Fatalf("New(%d): nil", most)
	}
	return x
}

// taken does the acts of a text, of which none may be refused.
func taken(t *testing.T, x *thread.Table, text string) {
	t.Helper()
	for _, a := range acts(t, text) {
		if got := does(x, a); !strings.HasSuffix(got, "ok") {
			t.Fatalf("%s%v: %s", a.call, a.numbers, got)
		}
	}
}

// begun is a Table behind those acts.
func begun(t *testing.T, most int, text string) *thread.Table {
	t.Helper()
	x := made(t, most)
	taken(t, x, text)
	return x
}

// doing is an act, its answer, and what is told behind it.
type doing struct {
	act, answer, told string
}

// goes does those acts, behind the acts of a text, and looks at each.
func goes(t *testing.T, most int, begin string, row ...doing) {
	t.Helper()
	x := begun(t, most, begin)
	for _, d := range row {
		answers(t, x, acts(t, d.act)[0], d.answer)
		holds(t, x, most, d.told)
		if t.Failed() {
			t.Fatalf("behind %q, at %q", begin, d.act)
		}
	}
}

// refused is an act, and its answer, behind which nothing has changed.
type refused struct {
	act    act
	answer string
}

// refuses looks that those acts change nothing behind the acts of a text.
func refuses(t *testing.T, most int, begin, before string, l ...refused) {
	t.Helper()
	x := begun(t, most, begin)
	for _, r := range l {
		answers(t, x, r.act, r.answer)
		holds(t, x, most, before)
		if t.Failed() {
			t.Fatalf("behind %q", begin)
		}
	}
}

// The chapter's example.
func TestExample(t *testing.T) {
	x := made(t, 2)
	c := api.Context{Program: 1, PC: 2, Regs: [8]int{3, 4}, Depth: 5}
	id, err := x.Spawn(c, 1)
	if id != 65536 || err != api.OK {
		t.Fatalf("Spawn: %d, %v", id, err)
	}
	for _, err := range []api.Errno{x.Run(id), x.Trap(id), x.Wake(id)} {
		if err != api.OK {
			t.Errorf("%v", err)
		}
	}
	want := thread.Thread{Id: 65536, State: thread.Ready, Tickets: 1, Context: c}
	if got, ok := x.Get(id); got != want || !ok {
		t.Errorf("Get: %v, %v, want %v", got, ok, want)
	}
	if got := x.All(); !slices.Equal(got, []thread.Thread{want}) {
		t.Errorf("All: %v", got)
	}
}

// The chapter's numbers of the states.
func TestStates(t *testing.T) {
	if thread.Ready != 1 || thread.Running != 2 || thread.Waiting != 3 || thread.Kernel != 4 {
		t.Errorf("%d, %d, %d, %d", thread.Ready, thread.Running, thread.Waiting, thread.Kernel)
	}
}

// P22.1
func TestNew(t *testing.T) {
	for _, most := range []int{lowest, lowest + 1, -1 << 32, -32, -2, -1, 0, 33, 34, 64, 1024, 4096, 65536, 1 << 32, 1<<32 + 1, highest} {
		if thread.New(most) != nil {
			t.Errorf("New(%d): not nil", most)
		}
	}
	for _, most := range []int{1, 2, 3, 16, 31, 32} {
		holds(t, made(t, most), most, "")
	}
}

// spawned are so many threads that are Ready, and what a Table tells of them.
func spawned(t *testing.T, x *thread.Table, many int) string {
	t.Helper()
	var parts []string
	for place := range many {
		answers(t, x, an("Spawn", place, place+1), fmt.Sprint("a", place, " ok"))
		parts = append(parts, fmt.Sprint("a", place, " ready ", place+1, " ", place, " 0"))
	}
	return strings.Join(parts, ", ")
}

// P22.1: so many as New was told are there at once, and no more, whatever they do.
func TestSpawnFills(t *testing.T) {
	for _, most := range []int{1, 2, 3, 31, 32} {
		x := made(t, most)
		told := spawned(t, x, most)
		holds(t, x, most, told)
		for range 2 {
			answers(t, x, an("Spawn", 1, 1), "0 full")
			answers(t, x, an("Spawn", 1, mostTickets), "0 full")
			for _, tickets := range []int{lowest, -1, 0, mostTickets + 1, highest} {
				answers(t, x, an("Spawn", 1, tickets), "0 arg")
			}
			holds(t, x, most, told)
		}
		// One that waits has its place still; one that ended hasn't.
		last := id(most-1, 1)
		for _, call := range []string{"Run", "Wait", "Wake", "Run", "Trap", "Back"} {
			answers(t, x, an(call, last), "ok")
			answers(t, x, an("Spawn", 1, 1), "0 full")
		}
		answers(t, x, an("End", last), "ok")
		answers(t, x, an("Spawn", 1, 0), "0 arg")
		answers(t, x, an("Spawn", 1, 1), fmt.Sprint("b", most-1, " ok"))
		answers(t, x, an("Spawn", 1, 1), "0 full")
		before, _, _ := strings.Cut(told, fmt.Sprint("a", most-1, " "))
		holds(t, x, most, fmt.Sprint(before, "b", most-1, " ready 1 1 0"))
	}
}

// P22.1
func TestSpawnTickets(t *testing.T) {
	for _, tickets := range []int{1, 2, 3, 255, 256, 32768, 65535, 65536} {
		goes(t, 1, "", doing{fmt.Sprint("Spawn 5 ", tickets), "a0 ok", fmt.Sprint("a0 ready ", tickets, " 5 0")})
	}
	var l []refused
	for _, tickets := range []int{lowest, lowest + 1, -1 << 32, -65536, -2, -1, 0, 65537, 65538, 1 << 20, 1 << 32, 1<<32 + 1, highest - 1, highest} {
		l = append(l, refused{an("Spawn", 5, tickets), "0 arg"})
	}
	refuses(t, 2, "", "", l...)
	refuses(t, 2, "Spawn 1 2", "a0 ready 2 1 0", l...)
	// It is ErrArg, too, where there is no room.
	refuses(t, 1, "Spawn 1 2", "a0 ready 2 1 0", l...)
	// Those that were refused took no ids.
	x := made(t, 2)
	for _, r := range l {
		answers(t, x, r.act, r.answer)
	}
	answers(t, x, an("Spawn", 5, 1), "a0 ok")
	holds(t, x, 2, "a0 ready 1 5 0")
}

// P22.1: ids are those that slots' Take gives.
func TestSpawnBehindEnd(t *testing.T) {
	goes(t, 3, "Spawn 1 1, Spawn 2 2, Spawn 3 3, Run a0, Run a1, Run a2",
		doing{"Spawn 4 4", "0 full", "a0 running 1 1 0, a1 running 2 2 0, a2 running 3 3 0"},
		doing{"End a1", "ok", "a0 running 1 1 0, a2 running 3 3 0"},
		doing{"End a0", "ok", "a2 running 3 3 0"},
		// The least place, as a thread that has nothing of the old one.
		doing{"Spawn 4 4", "b0 ok", "a2 running 3 3 0, b0 ready 4 4 0"},
		doing{"Did b0 5", "ok", "a2 running 3 3 0, b0 ready 4 5 1"},
		doing{"Run b0", "ok", "a2 running 3 3 0, b0 running 4 5 1"},
		doing{"End b0", "ok", "a2 running 3 3 0"},
		doing{"Spawn 6 5", "c0 ok", "a2 running 3 3 0, c0 ready 5 6 0"},
		doing{"Spawn 7 6", "b1 ok", "a2 running 3 3 0, b1 ready 6 7 0, c0 ready 5 6 0"},
		doing{"Spawn 8 7", "0 full", "a2 running 3 3 0, b1 ready 6 7 0, c0 ready 5 6 0"},
		doing{"End a2", "ok", "b1 ready 6 7 0, c0 ready 5 6 0"},
		doing{"Spawn 9 8", "b2 ok", "b1 ready 6 7 0, b2 ready 8 9 0, c0 ready 5 6 0"},
	)
}

// P22.1, P22.2: an old id of a place is no thread's, while another one is there and while
// none is.
func TestOldIds(t *testing.T) {
	for _, c := range []struct {
		begin, told string
		gone        []int
	}{
		{"Spawn 1 1, Run a0, End a0", "", []int{id(0, 1), id(0, 2), id(1, 1)}},
		{"Spawn 1 1, Run a0, End a0, Spawn 2 2", "b0 ready 2 2 0", []int{id(0, 1), id(0, 3), id(1, 1)}},
		{"Spawn 1 1, Run a0, End a0, Spawn 2 2, Run b0", "b0 running 2 2 0", []int{id(0, 1), id(0, 3), id(1, 2)}},
		{"Spawn 1 1, Run a0, End a0, Spawn 2 2, Run b0, Wait b0", "b0 waiting 2 2 0", []int{id(0, 1), id(0, 3)}},
		{"Spawn 1 1, Run a0, End a0, Spawn 2 2, Run b0, Trap b0", "b0 kernel 2 2 0", []int{id(0, 1), id(0, 3)}},
		{"Spawn 1 1, Run a0, End a0, Spawn 2 2, Run b0, End b0, Spawn 3 3, Run c0", "c0 running 3 3 0", []int{id(0, 1), id(0, 2), id(0, 4)}},
	} {
		refuses(t, 2, c.begin, c.told, none(c.gone...)...)
	}
}

// none are the acts of threads that there aren't.
func none(all ...int) []refused {
	var l []refused
	for _, n := range all {
		l = append(l, refused{an("Set", n, 9), "none"}, refused{an("Did", n, 9), "none"})
		for _, call := range changeNames {
			l = append(l, refused{an(call, n), "none"})
		}
	}
	return l
}

// P22.1, P22.2: numbers that are no ids, ids that were never given, and places that aren't
// there.
func TestErrNone(t *testing.T) {
	never := []int{id(0, 2), id(0, mostAge), id(1, 2), id(1, mostAge)}
	begin, told := "Spawn 1 1, Spawn 2 2, Run a1", "a0 ready 1 1 0, a1 running 2 2 0"
	refuses(t, 2, begin, told, none(append(odd(2), never...)...)...)
	refuses(t, 3, begin, told, none(append(odd(3), append(never, id(2, 1), id(2, 2))...)...)...)
	refuses(t, 1, "", "", none(append(odd(1), append(never, id(0, 1))...)...)...)
}

// P22.1: in each state.
func TestSet(t *testing.T) {
	goes(t, 2, "Spawn 1 3, Spawn 2 4",
		doing{"Set a0 5", "ok", "a0 ready 3 5 0, a1 ready 4 2 0"},
		doing{"Set a0 5", "ok", "a0 ready 3 5 0, a1 ready 4 2 0"},
		doing{"Did a0 6", "ok", "a0 ready 3 6 1, a1 ready 4 2 0"},
		doing{"Set a0 1", "ok", "a0 ready 3 1 1, a1 ready 4 2 0"},
		doing{"Run a0", "ok", "a0 running 3 1 1, a1 ready 4 2 0"},
		doing{"Set a0 7", "ok", "a0 running 3 7 1, a1 ready 4 2 0"},
		doing{"Wait a0", "ok", "a0 waiting 3 7 1, a1 ready 4 2 0"},
		doing{"Set a0 8", "ok", "a0 waiting 3 8 1, a1 ready 4 2 0"},
		doing{"Set a1 -9", "ok", "a0 waiting 3 8 1, a1 ready 4 -9 0"},
		doing{"Wake a0", "ok", "a0 ready 3 8 1, a1 ready 4 -9 0"},
		doing{"Run a0", "ok", "a0 running 3 8 1, a1 ready 4 -9 0"},
		doing{"Trap a0", "ok", "a0 kernel 3 8 1, a1 ready 4 -9 0"},
		doing{"Set a0 0", "ok", "a0 kernel 3 0 1, a1 ready 4 -9 0"},
	)
}

// P22.1: in each state, and many times.
func TestDid(t *testing.T) {
	goes(t, 2, "Spawn 1 3, Spawn 2 4",
		doing{"Did a0 5", "ok", "a0 ready 3 5 1, a1 ready 4 2 0"},
		doing{"Did a0 5", "ok", "a0 ready 3 5 2, a1 ready 4 2 0"},
		doing{"Did a1 6", "ok", "a0 ready 3 5 2, a1 ready 4 6 1"},
		doing{"Run a0", "ok", "a0 running 3 5 2, a1 ready 4 6 1"},
		doing{"Did a0 7", "ok", "a0 running 3 7 3, a1 ready 4 6 1"},
		doing{"Wait a0", "ok", "a0 waiting 3 7 3, a1 ready 4 6 1"},
		doing{"Did a0 8", "ok", "a0 waiting 3 8 4, a1 ready 4 6 1"},
		doing{"Wake a0", "ok", "a0 ready 3 8 4, a1 ready 4 6 1"},
		doing{"Run a0", "ok", "a0 running 3 8 4, a1 ready 4 6 1"},
		doing{"Trap a0", "ok", "a0 kernel 3 8 4, a1 ready 4 6 1"},
		doing{"Did a0 -9", "ok", "a0 kernel 3 -9 5, a1 ready 4 6 1"},
		doing{"Back a0", "ok", "a0 running 3 -9 5, a1 ready 4 6 1"},
		doing{"End a0", "ok", "a1 ready 4 6 1"},
		doing{"Spawn 1 1", "b0 ok", "a1 ready 4 6 1, b0 ready 1 1 0"},
	)
	x := begun(t, 1, "Spawn 0 1")
	for n := range 100000 {
		answers(t, x, an("Did", id(0, 1), n), "ok")
	}
	holds(t, x, 1, "a0 ready 1 99999 100000")
}

// P22.1: a context may be any one, and each part of it is kept.
func TestContexts(t *testing.T) {
	all := []api.Context{{}, {Program: -1}, {PC: lowest}, {Depth: highest}, {Program: highest, PC: highest, Depth: lowest}}
	for i := range api.MaxRegs {
		var c api.Context
		c.Regs[i] = highest - i
		all = append(all, c)
	}
	x := made(t, 2)
	for _, c := range all {
		spawned, _ := x.Spawn(c, 1)
		other, _ := x.Spawn(context(7), 2)
		for done, again := range all {
			if got, _ := x.Get(spawned); got.Context != c || got.Done != 2*done {
				t.Errorf("Get: %v, %d, want %v, %d", got.Context, got.Done, c, 2*done)
			}
			if err := x.Set(spawned, again); err != api.OK {
				t.Errorf("Set: %v", err)
			}
			if got, _ := x.Get(spawned); got.Context != again {
				t.Errorf("Get: %v, want %v", got.Context, again)
			}
			if err := x.Did(spawned, context(done)); err != api.OK {
				t.Errorf("Did: %v", err)
			}
			if got, _ := x.Get(spawned); got.Context != context(done) {
				t.Errorf("Get: %v, want %v", got.Context, context(done))
			}
			x.Did(spawned, c)
		}
		if got, _ := x.Get(other); got.Context != context(7) {
			t.Errorf("Get: %v, of another one", got.Context)
		}
		for _, n := range []int{spawned, other} {
			x.Run(n)
			x.End(n)
		}
	}
}

// R3: whoever handed a context in, or got one, may change it.
func TestContextsAreKept(t *testing.T) {
	x := made(t, 1)
	c := context(1)
	x.Spawn(c, 1)
	c.PC, c.Regs[3] = 77, 77
	holds(t, x, 1, "a0 ready 1 1 0")
	c = context(2)
	x.Set(id(0, 1), c)
	c.Program, c.Regs[7] = 77, 77
	holds(t, x, 1, "a0 ready 1 2 0")
	c = context(3)
	x.Did(id(0, 1), c)
	c.Depth, c.Regs[0] = 77, 77
	holds(t, x, 1, "a0 ready 1 3 1")
	got, _ := x.Get(id(0, 1))
	got.Context.Regs[0], got.Context.PC, got.State, got.Done = 77, 77, 77, 77
	holds(t, x, 1, "a0 ready 1 3 1")
}

// leads tells by calls, and by what a thread was, what it is then; what isn't here is
// ErrState.
var leads = map[string]map[string]string{
	"Run":   {"ready": "running"},
	"Yield": {"running": "ready"},
	"Wait":  {"running": "waiting"},
	"Trap":  {"running": "kernel"},
	"Wake":  {"waiting": "ready", "kernel": "ready"},
	"Back":  {"kernel": "running"},
	"End":   {"running": "no more"},
}

// P22.2: each call at a thread in each state, and another one that it leaves alone.
func TestChanges(t *testing.T) {
	for was, begin := range map[string]string{
		"ready":   "",
		"running": "Run a1",
		"waiting": "Run a1, Wait a1",
		"kernel":  "Run a1, Trap a1",
	} {
		for other, its := range map[string]string{
			"ready":   "",
			"running": "Run a0",
			"waiting": "Run a0, Wait a0",
			"kernel":  "Run a0, Trap a0",
		} {
			first := "a0 " + other + " 7 1 0"
			for _, call := range changeNames {
				row := doing{call + " a1", "ok", first + ", a1 " + leads[call][was] + " 8 3 1"}
				switch leads[call][was] {
				case "":
					row.answer, row.told = "state", first+", a1 "+was+" 8 3 1"
				case "no more":
					row.told = first
				}
				goes(t, 2, "Spawn 1 7, Spawn 2 8, Did a1 3,"+begin+","+its, row)
			}
		}
	}
}

// P22.2: from state to state, round and round.
func TestRoundAndRound(t *testing.T) {
	x := begun(t, 3, "Spawn 1 1, Spawn 2 2, Spawn 3 3")
	for range 50 {
		for _, d := range []doing{
			{"Run a1", "ok", "running"},
			{"Run a1", "state", "running"},
			{"Wake a1", "state", "running"},
			{"Back a1", "state", "running"},
			{"Yield a1", "ok", "ready"},
			{"Yield a1", "state", "ready"},
			{"End a1", "state", "ready"},
			{"Run a1", "ok", "running"},
			{"Wait a1", "ok", "waiting"},
			{"Wait a1", "state", "waiting"},
			{"Back a1", "state", "waiting"},
			{"Run a1", "state", "waiting"},
			{"Wake a1", "ok", "ready"},
			{"Wake a1", "state", "ready"},
			{"Run a1", "ok", "running"},
			{"Trap a1", "ok", "kernel"},
			{"Trap a1", "state", "kernel"},
			{"End a1", "state", "kernel"},
			{"Wake a1", "ok", "ready"},
			{"Trap a1", "state", "ready"},
			{"Run a1", "ok", "running"},
			{"Trap a1", "ok", "kernel"},
			{"Back a1", "ok", "running"},
			{"Yield a1", "ok", "ready"},
		} {
			answers(t, x, acts(t, d.act)[0], d.answer)
			holds(t, x, 3, "a0 ready 1 1 0, a1 "+d.told+" 2 2 0, a2 ready 3 3 0")
		}
	}
}

// P22.2: one that ended is no more, whatever is asked of it.
func TestEnd(t *testing.T) {
	begin := "Spawn 1 1, Spawn 2 2, Spawn 3 3, Run a0, Run a1, Run a2"
	for _, c := range []struct{ end, told string }{
		{"End a0", "a1 running 2 2 0, a2 running 3 3 0"},
		{"End a1", "a0 running 1 1 0, a2 running 3 3 0"},
		{"End a2", "a0 running 1 1 0, a1 running 2 2 0"},
		{"End a2, End a0", "a1 running 2 2 0"},
		{"End a2, End a0, End a1", ""},
	} {
		ended := acts(t, c.end)[0].numbers[0]
		refuses(t, 3, begin+","+c.end, c.told, none(ended)...)
	}
}

// P22.2
func TestCountAndAll(t *testing.T) {
	// In the order of the ids, behind Ends and Spawns.
	x := begun(t, 6, "Spawn 1 1, Spawn 2 2, Spawn 3 3, Spawn 4 4, Spawn 5 5, Spawn 6 6, Run a0, End a0, Run a3, End a3, Spawn 7 7, Run b0, End b0, Spawn 8 8, Spawn 9 9, Run a4, Wait a4, Run b3, Trap b3, Run a5, Wait a5, Run c0")
	holds(t, x, 6, "a1 ready 2 2 0, a2 ready 3 3 0, a4 waiting 5 5 0, a5 waiting 6 6 0, b3 kernel 9 9 0, c0 running 8 8 0")
	for range 2 {
		for state, want := range map[int]int{
			thread.Ready: 2, thread.Running: 1, thread.Waiting: 2, thread.Kernel: 1,
			lowest: 0, -1: 0, 0: 0, 5: 0, highest: 0,
		} {
			if got := x.Count(state); got != want {
				t.Errorf("Count(%d): %d, want %d", state, got, want)
			}
		}
		if got := x.All(); len(got) != 6 || got[0].Id != id(1, 1) || got[5].Id != id(0, 3) {
			t.Errorf("All: %v", got)
		}
	}
}

// spoil overwrites a list, and the spare room behind its end.
func spoil(l []thread.Thread) {
	for i := range l[:cap(l)] {
		l[:cap(l)][i] = thread.Thread{Id: 77, State: 77, Tickets: 77, Context: context(77), Done: 77}
	}
}

// R3
func TestAnswersAreNewMemory(t *testing.T) {
	told := "a0 running 1 1 0, a1 ready 2 2 0, a2 waiting 3 4 1"
	x := begun(t, 4, "Spawn 1 1, Spawn 2 2, Spawn 3 3, Run a0, Run a2, Wait a2, Did a2 4")
	for range 3 {
		spoil(x.All())
		holds(t, x, 4, told)
	}
	answers(t, x, an("Spawn", 5, 5), "a3 ok")
	holds(t, x, 4, told+", a3 ready 5 5 0")
}

// R3: what was told stays as it is, whatever is done then.
func TestAnswersStay(t *testing.T) {
	told := "a0 running 1 1 0, a1 ready 2 2 0, a2 waiting 3 4 1"
	x := begun(t, 4, "Spawn 1 1, Spawn 2 2, Spawn 3 3, Run a0, Run a2, Wait a2, Did a2 4")
	list := x.All()
	got, _ := x.Get(id(0, 1))
	taken(t, x, "Did a0 9, End a0, Set a1 8, Run a1, Trap a1, Wake a2, Did a2 7, Spawn 6 6, Spawn 5 5, Run b0, Set b0 3")
	holds(t, x, 4, "a1 kernel 2 8 0, a2 ready 3 7 2, a3 ready 5 5 0, b0 running 6 3 0")
	if all(list) != told {
		t.Errorf("All: now %s", all(list))
	}
	if one(got) != "a0 running 1 1 0" {
		t.Errorf("Get: now %s", one(got))
	}
}

// copied is x's Copy, which may not be nil here.
func copied(t *testing.T, x *thread.Table) *thread.Table {
	t.Helper()
	other := x.Copy()
	if other == nil {
		t.Fatal("Copy: nil")
	}
	return other
}

// P22.2: a copy knows all that what it was copied from does: room and ids, too.
func TestCopy(t *testing.T) {
	for _, c := range []struct{ begin, told, next string }{
		{"", "", "a0 ok"},
		{"Spawn 1 1", "a0 ready 1 1 0", "a1 ok"},
		{"Spawn 1 1, Run a0, End a0", "", "b0 ok"},
		{"Spawn 1 1, Spawn 2 2, Run a0, Did a0 5, Did a0 6, Run a1, Wait a1", "a0 running 1 6 2, a1 waiting 2 2 0", "0 full"},
		{"Spawn 1 1, Spawn 2 2, Run a0, End a0, Spawn 3 3, Run a1, Trap a1", "a1 kernel 2 2 0, b0 ready 3 3 0", "0 full"},
		{"Spawn 1 1, Spawn 2 2, Run a1, End a1", "a0 ready 1 1 0", "b1 ok"},
	} {
		x := begun(t, 2, c.begin)
		other := copied(t, x)
		third := copied(t, other)
		for _, it := range []*thread.Table{x, other, third} {
			holds(t, it, 2, c.told)
		}
		for _, it := range []*thread.Table{other, x, third} {
			answers(t, it, an("Spawn", 1, 0), "0 arg")
			answers(t, it, an("Spawn", 1, 1), c.next)
		}
	}
}

// What is done to one of both is not done to the other.
func TestCopyGoesItsOwnWay(t *testing.T) {
	begin := "Spawn 1 1, Spawn 2 2, Spawn 3 3, Spawn 4 4, Run a1, Run a2, Wait a2, Run a3, Trap a3"
	before := "a0 ready 1 1 0, a1 running 2 2 0, a2 waiting 3 3 0, a3 kernel 4 4 0"
	for _, d := range []doing{
		{"Spawn 5 5", "a4 ok", before + ", a4 ready 5 5 0"},
		{"Set a0 7", "ok", strings.Replace(before, "1 1 0", "1 7 0", 1)},
		{"Did a0 7", "ok", strings.Replace(before, "1 1 0", "1 7 1", 1)},
		{"Run a0", "ok", strings.Replace(before, "a0 ready", "a0 running", 1)},
		{"Yield a1", "ok", strings.Replace(before, "a1 running", "a1 ready", 1)},
		{"Wait a1", "ok", strings.Replace(before, "a1 running", "a1 waiting", 1)},
		{"Trap a1", "ok", strings.Replace(before, "a1 running", "a1 kernel", 1)},
		{"Wake a2", "ok", strings.Replace(before, "a2 waiting", "a2 ready", 1)},
		{"Wake a3", "ok", strings.Replace(before, "a3 kernel", "a3 ready", 1)},
		{"Back a3", "ok", strings.Replace(before, "a3 kernel", "a3 running", 1)},
		{"End a1", "ok", strings.Replace(before, "a1 running 2 2 0, ", "", 1)},
	} {
		x := begun(t, 5, begin)
		other := copied(t, x)
		a := acts(t, d.act)[0]
		answers(t, other, a, d.answer)
		holds(t, other, 5, d.told)
		holds(t, x, 5, before)
		third := copied(t, other)
		answers(t, x, a, d.answer)
		holds(t, x, 5, d.told)
		holds(t, other, 5, d.told)
		for _, n := range []int{id(0, 1), id(1, 1), id(2, 1), id(3, 1)} {
			third.Wake(n)
			third.Run(n)
			third.Did(n, context(9))
			third.End(n)
		}
		third.Spawn(context(8), 8)
		holds(t, x, 5, d.told)
		holds(t, other, 5, d.told)
	}
}

// P1, R5: of a Table that no call made.
func TestOfNoneMade(t *testing.T) {
	numbers := append(odd(1), append(ids(2), id(0, mostAge), 3, 4, 5)...)
	for _, x := range []*thread.Table{nil, {}, thread.New(0), thread.New(-1), thread.New(33), new(thread.Table)} {
		for range 2 {
			for _, n := range numbers {
				answers(t, x, an("Spawn", n, n), "0 made")
				answers(t, x, an("Spawn", n, 1), "0 made")
				answers(t, x, an("Set", n, n), "made")
				answers(t, x, an("Did", n, n), "made")
				for _, call := range changeNames {
					answers(t, x, an(call, n), "made")
				}
				gets(t, x, n, "")
				if got := x.Count(n); got != 0 {
					t.Errorf("Count(%d): %d", n, got)
				}
			}
			if len(x.All()) > 0 || x.Copy() != nil {
				t.Errorf("All: %v, Copy: %v", x.All(), x.Copy())
			}
		}
	}
}
