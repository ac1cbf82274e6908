package join_test

import (
	"fmt"
	"math"
	"slices"
	"strconv"
	"strings"
	"testing"

	"wherry/api"
	"wherry/join"
)

const (
	lowest      = math.MinInt
	highest     = math.MaxInt
	mostThreads = 1024
	mostAge     = 1<<31 - 1
	ages        = 3  // the ids of which holds asks have ages from 1 on to that one
	asker       = 77 // the age of ids that ask for values, and have none of their own
)

// id is the id of an index and an age.
func id(index, age int) int {
	return age*65536 + index
}

// odd are numbers that are no ids, or whose place isn't below threads.
func odd(threads int) []int {
	return []int{
		lowest, lowest + 1, -1 << 47, -65537, -65536, -2, -1, 0, 1, 65535,
		1 << 47, 1<<47 + 1, 1 << 48, highest - 65535, highest - 1, highest,
		id(threads, 1), id(threads, 2), id(threads, mostAge), id(threads+1, 1),
		id(mostThreads, 1), id(4096, 2), id(65535, 1), id(65535, mostAge),
	}
}

// ids are those of places below threads, by places, and by ages at each.
func ids(threads int) []int {
	var l []int
	for place := range threads {
		for age := 1; age <= ages; age++ {
			l = append(l, id(place, age))
		}
	}
	return l
}

// number is what a word says: "b12" is the id of place 12 and age 2.
func number(t *testing.T, word string) int {
	t.Helper()
	digits, age := word, 0
	if word[0] >= 'a' && word[0] <= 'z' {
		digits, age = word[1:], int(word[0]-'a')+1
	}
	n, err := strconv.Atoi(digits)
	if err != nil {
		t.Fatal(err)
	}
	return id(n, age)
}

// name is the word of an id, as number takes it.
func name(n int) string {
	if n < 65536 || n/65536 > ages {
		return strconv.Itoa(n)
	}
	return string(rune('a'+n/65536-1)) + strconv.Itoa(n%65536)
}

// names are the words of ids, as in "[a1 b2]".
func names(l []int) string {
	var words []string
	for _, n := range l {
		words = append(words, name(n))
	}
	return fmt.Sprint(words)
}

// act is a call that may change Ends, and its arguments, from the left.
type act struct {
	call    string
	numbers []int
}

// an is the act of these arguments.
func an(call string, numbers ...int) act {
	return act{call, numbers}
}

// acts are those of a text, as in "Start a0, Join a0 b1, End a0 5".
func acts(t *testing.T, text string) []act {
	t.Helper()
	var l []act
	for part := range strings.SplitSeq(text, ",") {
		words := strings.Fields(part)
		if len(words) == 0 {
			continue
		}
		a := act{call: words[0]}
		for _, word := range words[1:] {
			a.numbers = append(a.numbers, number(t, word))
		}
		l = append(l, a)
	}
	return l
}

// does does an act, and tells its answer as a text, as in "[a1 b2] ok" or "5 true ok".
func does(e *join.Ends, a act) string {
	n := a.numbers
	switch a.call {
	case "Start":
		return fmt.Sprint(e.Start(n[0]))
	case "End":
		got, err := e.End(n[0], n[1])
		return fmt.Sprint(names(got), " ", err)
	case "Join":
		value, now, err := e.Join(n[0], n[1])
		return fmt.Sprint(value, now, err)
	case "Drop":
		return fmt.Sprint(e.Drop(n[0]))
	}
	return "there is no such call"
}

// answers does an act, and looks at the answer.
func answers(t *testing.T, e *join.Ends, a act, want string) {
	t.Helper()
	if got := does(e, a); got != want {
		t.Errorf("%s%v: %s, want %s", a.call, a.numbers, got, want)
	}
}

// values tells with what those ids ended that did, as Join tells it those of whom nobody
// waits: a copy is asked, so that nobody has to wait less.
func values(e *join.Ends, threads int) map[int]int {
	asked := e.Copy()
	for _, n := range ids(threads) {
		asked.Drop(n)
	}
	all := make(map[int]int)
	for _, n := range ids(threads) {
		if e.State(n) == 2 {
			all[n], _, _ = asked.Join(n, id(n%65536, asker))
		}
	}
	return all
}

// told is what e tells of all ids of which something is known: of one that goes on who
// waits for it, and of one that ended the value, as in "a0:[a1 b2] b1=5".
func told(e *join.Ends, threads int) string {
	var parts []string
	ends := values(e, threads)
	for _, n := range ids(threads) {
		switch e.State(n) {
		case 1:
			parts = append(parts, name(n)+":"+names(e.Waiters(n)))
		case 2:
			parts = append(parts, fmt.Sprint(name(n), "=", ends[n]))
		}
	}
	return strings.Join(parts, " ")
}

// waits tells by ids for which one each waits, as such a text says.
func waits(t *testing.T, text string) map[int]int {
	t.Helper()
	where := make(map[int]int)
	for part := range strings.SplitSeq(text, "]") {
		before, list, waited := strings.Cut(part, ":[")
		if !waited {
			continue
		}
		words := strings.Fields(before)
		for word := range strings.FieldsSeq(list) {
			where[number(t, word)] = number(t, words[len(words)-1])
		}
	}
	return where
}

// holds looks that e tells just that of itself, twice; threads is how many it has.
func holds(t *testing.T, e *join.Ends, threads int, want string) {
	t.Helper()
	where := waits(t, want)
	for range 2 {
		if got := told(e, threads); got != want {
			t.Errorf("it tells %s, want %s", got, want)
		}
		for _, n := range ids(threads) {
			if got := e.Where(n); got != where[n] {
				t.Errorf("Where(%s): %s, want %s", name(n), name(got), name(where[n]))
			}
			if e.State(n) != 1 && len(e.Waiters(n)) > 0 {
				t.Errorf("Waiters(%s): %s", name(n), names(e.Waiters(n)))
			}
		}
		for _, n := range odd(threads) {
			if e.State(n) != 0 || len(e.Waiters(n)) > 0 || e.Where(n) != 0 {
				t.Errorf("of %d: %d, %v, %d", n, e.State(n), e.Waiters(n), e.Where(n))
			}
		}
	}
}

// made is New's answer, which may not be nil here.
func made(t *testing.T, threads int) *join.Ends {
	t.Helper()
	e := join.New(threads)
	if e == nil {
		t.Fatalf("New(%d): nil", threads)
	}
	return e
}

// begun are Ends behind those acts, of which none may be refused.
func begun(t *testing.T, threads int, text string) *join.Ends {
	t.Helper()
	e := made(t, threads)
	for _, a := range acts(t, text) {
		if got := does(e, a); !strings.HasSuffix(got, "ok") && got != "true" {
			t.Fatalf("%s%v: %s", a.call, a.numbers, got)
		}
	}
	return e
}

// doing is an act, its answer, and what is told behind it.
type doing struct {
	act, answer, told string
}

// goes does those acts, behind the acts of a text, and looks at each.
func goes(t *testing.T, threads int, begin string, row ...doing) {
	t.Helper()
	e := begun(t, threads, begin)
	for _, d := range row {
		answers(t, e, acts(t, d.act)[0], d.answer)
		holds(t, e, threads, d.told)
		if t.Failed() {
			t.Fatalf("behind %q, at %q", begin, d.act)
		}
	}
}

// refused is an act, and its answer, behind which nothing has changed.
type refused struct {
	act    act
	answer string
}

// refuses looks that those acts change nothing behind the acts of a text.
func refuses(t *testing.T, threads int, begin, before string, all ...refused) {
	t.Helper()
	e := begun(t, threads, begin)
	for _, r := range all {
		answers(t, e, r.act, r.answer)
		holds(t, e, threads, before)
		if t.Failed() {
			t.Fatalf("behind %q", begin)
		}
	}
}

// The chapter's example, and that who waited is told the value by End alone, or asks.
func TestExample(t *testing.T) {
	e := made(t, 2)
	if err := e.Start(65536); err != api.OK {
		t.Errorf("Start(65536): %v", err)
	}
	if value, now, err := e.Join(65536, 65537); value != 0 || now || err != api.OK {
		t.Errorf("Join(65536, 65537): %d, %v, %v", value, now, err)
	}
	if l, err := e.End(65536, 5); !slices.Equal(l, []int{65537}) || err != api.OK {
		t.Errorf("End(65536, 5): %v, %v", l, err)
	}
	holds(t, e, 2, "a0=5")
	answers(t, e, an("Join", 65536, 65537), "5 true ok")
}

// P21.1
func TestNew(t *testing.T) {
	for _, threads := range []int{lowest, lowest + 1, -1 << 32, -1024, -2, -1, 0, 1025, 1026, 4096, 65536, 1<<32 + 1, highest} {
		if join.New(threads) != nil {
			t.Errorf("New(%d): not nil", threads)
		}
	}
	for _, threads := range []int{1, 2, 3, 32, 1023, 1024} {
		holds(t, made(t, threads), threads, "")
	}
}

// P21.1: the first and the last place are there, and the next ones aren't.
func TestNewTellsSoMany(t *testing.T) {
	for _, threads := range []int{1, 2, 3, 1023, 1024} {
		e := made(t, threads)
		last, by := id(threads-1, 1), id(0, mostAge)
		answers(t, e, an("Start", last), "ok")
		answers(t, e, an("Join", last, by), "0 false ok")
		if got := e.Where(by); got != last {
			t.Errorf("Where(%d): %d, want %d", by, got, last)
		}
		if got := e.Waiters(last); !slices.Equal(got, []int{by}) {
			t.Errorf("Waiters(%d): %v", last, got)
		}
		for age := range ages {
			next := id(threads, age+1)
			answers(t, e, an("Start", next), "range")
			answers(t, e, an("End", next, 1), "[] none")
			answers(t, e, an("Join", last, next), "0 false range")
			answers(t, e, an("Join", next, id(threads-1, 2)), refusal(threads))
			answers(t, e, an("Drop", next), "false")
		}
		answers(t, e, an("End", last, highest), fmt.Sprintf("[%d] ok", by))
		answers(t, e, an("Join", last, id(threads-1, 2)), fmt.Sprint(highest, true, api.OK))
		answers(t, e, an("Start", by), "ok")
	}
}

// refusal is the answer to a Join, by the last place, of one that isn't known, while the
// first place waits: they are the same one where there is but one.
func refusal(threads int) string {
	if threads == 1 {
		return "0 false state"
	}
	return "0 false none"
}

func TestNewTellsEndsOfTheirOwn(t *testing.T) {
	a, b := made(t, 3), made(t, 3)
	answers(t, a, an("Start", id(0, 1)), "ok")
	answers(t, a, an("Join", id(0, 1), id(2, 1)), "0 false ok")
	holds(t, a, 3, "a0:[a2]")
	holds(t, b, 3, "")
}

// P21.1
func TestStart(t *testing.T) {
	// At places of their own, in any order and of any age.
	goes(t, 3, "",
		doing{"Start b1", "ok", "b1:[]"},
		doing{"Start a2", "ok", "b1:[] a2:[]"},
		doing{"Start c0", "ok", "c0:[] b1:[] a2:[]"},
	)
	// Of one that goes on, and of another one at its place, younger or older.
	goes(t, 2, "Start b0, Join b0 a1",
		doing{"Start b0", "state", "b0:[a1]"},
		doing{"Start c0", "state", "b0:[a1]"},
		doing{"Start a0", "state", "b0:[a1]"},
		doing{"Start c1", "ok", "b0:[a1] c1:[]"},
	)
	// Behind its end: another one, of which the value goes, too, and the same one.
	goes(t, 2, "Start a0, Start a1, End a0 5",
		doing{"Start b0", "ok", "b0:[] a1:[]"},
		doing{"End b0 0", "[] ok", "b0=0 a1:[]"},
		doing{"Start b0", "ok", "b0:[] a1:[]"},
		doing{"Start b0", "state", "b0:[] a1:[]"},
		doing{"End b0 -7", "[] ok", "b0=-7 a1:[]"},
		doing{"Start a0", "ok", "a0:[] a1:[]"},
		doing{"Start b0", "state", "a0:[] a1:[]"},
	)
}

// P21.1: one that comes to a place isn't waited for by those of the one that was there,
// and one that waits is there still.
func TestStartBesideWaiting(t *testing.T) {
	goes(t, 3, "Start a0, Start a1, Join a1 a0, Join a1 a2",
		// a0 ends while it waits.
		doing{"End a0 1", "[] ok", "a0=1 a1:[a0 a2]"},
		doing{"Start b0", "ok", "b0:[] a1:[a0 a2]"},
		doing{"Join a1 b0", "0 false state", "b0:[] a1:[a0 a2]"},
		doing{"Start a2", "ok", "b0:[] a1:[a0 a2] a2:[]"},
		doing{"End a1 8", "[a0 a2] ok", "b0:[] a1=8 a2:[]"},
		doing{"Start b1", "ok", "b0:[] b1:[] a2:[]"},
		doing{"Join b1 b0", "0 false ok", "b0:[] b1:[b0] a2:[]"},
		doing{"Join b1 a0", "0 false state", "b0:[] b1:[b0] a2:[]"},
		doing{"End b0 3", "[] ok", "b0=3 b1:[b0] a2:[]"},
		doing{"Start b0", "ok", "b0:[] b1:[b0] a2:[]"},
		doing{"Drop b0", "true", "b0:[] b1:[] a2:[]"},
	)
}

// P21.1, P21.2: ErrRange, and what else is told of numbers that Ends don't have, also
// where something goes on, waits or has ended.
func TestErrRange(t *testing.T) {
	begin, before := "Start a0, Start b1, Start a2, Join a0 a1, Join b1 a0, End a2 9", "a0:[a1] b1:[a0] a2=9"
	for _, n := range odd(4) {
		all := []refused{
			{an("Start", n), "range"},
			{an("End", n, 1), "[] none"},
			{an("Drop", n), "false"},
			{an("Join", n, n), "0 false range"},
			{an("Join", n, id(0, 1)), "0 false state"},
			{an("Join", n, id(1, 1)), "0 false state"},
			{an("Join", n, id(1, 3)), "0 false state"},
			{an("Join", n, id(2, 1)), "0 false none"},
			{an("Join", n, id(3, 1)), "0 false none"},
			{an("Join", n, id(3, mostAge)), "0 false none"},
		}
		for _, known := range ids(4) {
			all = append(all, refused{an("Join", known, n), "0 false range"})
		}
		for _, other := range odd(4) {
			all = append(all, refused{an("Join", other, n), "0 false range"})
		}
		refuses(t, 4, begin, before, all...)
	}
}

// P21.1
func TestEnd(t *testing.T) {
	// Not started; of another age; twice.
	goes(t, 2, "",
		doing{"End a0 5", "[] none", ""},
		doing{"Start b0", "ok", "b0:[]"},
		doing{"End a0 5", "[] none", "b0:[]"},
		doing{"End c0 5", "[] none", "b0:[]"},
		doing{"End b1 5", "[] none", "b0:[]"},
		doing{"End b0 5", "[] ok", "b0=5"},
		doing{"End b0 6", "[] none", "b0=5"},
		doing{"End b0 5", "[] none", "b0=5"},
		doing{"End a0 6", "[] none", "b0=5"},
		// Its place has another one.
		doing{"Start c0", "ok", "c0:[]"},
		doing{"End b0 6", "[] none", "c0:[]"},
		doing{"End c0 0", "[] ok", "c0=0"},
		doing{"End b0 6", "[] none", "c0=0"},
	)
	// Those that wait for it are told in the order in which they came; others wait on.
	goes(t, 6, "Start a0, Start a1, Join a0 b4, Join a1 a3, Join a0 a2, Join a0 c5, Join a1 a0",
		doing{"End a0 1", "[b4 a2 c5] ok", "a0=1 a1:[a3 a0]"},
		doing{"Join a1 a2", "0 false ok", "a0=1 a1:[a3 a0 a2]"},
		doing{"Join a1 b4", "0 false ok", "a0=1 a1:[a3 a0 a2 b4]"},
		doing{"Start b0", "ok", "b0:[] a1:[a3 a0 a2 b4]"},
		doing{"End b0 2", "[] ok", "b0=2 a1:[a3 a0 a2 b4]"},
		doing{"End a1 3", "[a3 a0 a2 b4] ok", "b0=2 a1=3"},
	)
	// One waits for itself of another age, at the same place.
	goes(t, 1, "Start b0",
		doing{"Join b0 a0", "0 false ok", "b0:[a0]"},
		doing{"End b0 4", "[a0] ok", "b0=4"},
		doing{"Join b0 a0", "4 true ok", "b0=4"},
	)
}

// P21.1
func TestEndValues(t *testing.T) {
	for _, value := range []int{lowest, lowest + 1, -65536, -1, 0, 1, 2, 65535, 65536, 1 << 47, highest - 1, highest} {
		e := begun(t, 2, "Start a0, Join a0 a1")
		answers(t, e, an("End", id(0, 1), value), "[a1] ok")
		holds(t, e, 2, fmt.Sprint("a0=", value))
		for range 2 {
			answers(t, e, an("Join", id(0, 1), id(1, 1)), fmt.Sprint(value, true, api.OK))
		}
	}
}

// P21.2
func TestJoin(t *testing.T) {
	// By ids that weren't started, one that goes on, one that ended, and one whose place
	// has another one: they wait in the order in which they come, whatever they are.
	goes(t, 7, "Start a0, Start a1, Start b3, Start a4, End a4 2",
		doing{"Join a0 a5", "0 false ok", "a0:[a5] a1:[] b3:[] a4=2"},
		doing{"Join a0 a1", "0 false ok", "a0:[a5 a1] a1:[] b3:[] a4=2"},
		doing{"Join a1 a4", "0 false ok", "a0:[a5 a1] a1:[a4] b3:[] a4=2"},
		doing{"Join a0 a3", "0 false ok", "a0:[a5 a1 a3] a1:[a4] b3:[] a4=2"},
		doing{"Join a1 c6", "0 false ok", "a0:[a5 a1 a3] a1:[a4 c6] b3:[] a4=2"},
		doing{"Join a0 a2", "0 false ok", "a0:[a5 a1 a3 a2] a1:[a4 c6] b3:[] a4=2"},
		// They may wait for one another, round and round.
		doing{"Join a1 a0", "0 false ok", "a0:[a5 a1 a3 a2] a1:[a4 c6 a0] b3:[] a4=2"},
	)
	// One that ended: the value at once, again and again, until its place has another one.
	goes(t, 4, "Start a0, Start a1, End a0 5",
		doing{"Join a0 a1", "5 true ok", "a0=5 a1:[]"},
		doing{"Join a0 a1", "5 true ok", "a0=5 a1:[]"},
		doing{"Join a0 c3", "5 true ok", "a0=5 a1:[]"},
		doing{"Join a0 b0", "5 true ok", "a0=5 a1:[]"},
		doing{"Join a1 b0", "0 false ok", "a0=5 a1:[b0]"},
		doing{"Join a0 b0", "0 false state", "a0=5 a1:[b0]"},
		doing{"Join a0 a2", "5 true ok", "a0=5 a1:[b0]"},
		doing{"Start b0", "ok", "b0:[] a1:[b0]"},
		doing{"Join a0 a2", "0 false none", "b0:[] a1:[b0]"},
		doing{"Join b0 a2", "0 false ok", "b0:[a2] a1:[b0]"},
	)
}

// P21.2: by itself, whatever is known of it.
func TestJoinByItself(t *testing.T) {
	refuses(t, 4, "Start a0, Start a1, Start b3, End a1 5", "a0:[] a1=5 b3:[]",
		refused{an("Join", id(0, 1), id(0, 1)), "0 false state"},
		refused{an("Join", id(1, 1), id(1, 1)), "0 false state"},
		refused{an("Join", id(2, 1), id(2, 1)), "0 false state"},
		refused{an("Join", id(3, 1), id(3, 1)), "0 false state"},
		refused{an("Join", id(3, 2), id(3, 2)), "0 false state"},
		refused{an("Join", id(0, 2), id(0, 2)), "0 false state"},
		refused{an("Join", id(0, mostAge), id(0, mostAge)), "0 false state"},
	)
}

// P21.2: by one whose place waits already, with this id or another one, whatever is known
// of the one that it would wait for.
func TestJoinWaitsAlready(t *testing.T) {
	// b2, that was never started, waits for a0, and a1 for itself of another age.
	begin, before := "Start a0, Start b1, Start a3, Join a0 b2, Join b1 a1, End a3 5", "a0:[b2] b1:[a1] a3=5"
	var all []refused
	for _, of := range append(ids(4), odd(4)...) {
		for age := 1; age <= ages; age++ {
			all = append(all, refused{an("Join", of, id(2, age)), "0 false state"})
			all = append(all, refused{an("Join", of, id(1, age)), "0 false state"})
		}
	}
	refuses(t, 4, begin, before, all...)
	// One that waited, and does no more, may join again; and so may another one there.
	goes(t, 4, begin,
		doing{"End b1 7", "[a1] ok", "a0:[b2] b1=7 a3=5"},
		doing{"Join b1 a1", "7 true ok", "a0:[b2] b1=7 a3=5"},
		doing{"Join b1 c1", "7 true ok", "a0:[b2] b1=7 a3=5"},
		doing{"Join a0 c1", "0 false ok", "a0:[b2 c1] b1=7 a3=5"},
		doing{"Join a0 a1", "0 false state", "a0:[b2 c1] b1=7 a3=5"},
		doing{"Drop c1", "true", "a0:[b2] b1=7 a3=5"},
		doing{"Join a0 a1", "0 false ok", "a0:[b2 a1] b1=7 a3=5"},
		doing{"Join a3 c1", "0 false state", "a0:[b2 a1] b1=7 a3=5"},
	)
}

// P21.2: ErrNone comes last.
func TestJoinErrNone(t *testing.T) {
	begin, before := "Start a0, End a0 3, Start b0, Start a1, Join a1 a3", "b0:[] a1:[a3]"
	var all []refused
	for _, of := range []int{id(0, 1), id(0, 3), id(1, 2), id(2, 1), id(3, 1), id(0, mostAge), lowest, -1, 0, 1, highest, id(4, 1)} {
		for _, by := range []int{id(0, 2), id(1, 1), id(2, 3), id(1, mostAge)} {
			all = append(all, refused{an("Join", of, by), "0 false none"})
		}
		all = append(all, refused{an("Join", of, id(3, 1)), "0 false state"})
		all = append(all, refused{an("Join", of, id(3, 2)), "0 false state"})
		all = append(all, refused{an("Join", of, id(4, 1)), "0 false range"})
	}
	refuses(t, 4, begin, before, all...)
}

// P21.2
func TestDrop(t *testing.T) {
	begin := "Start a0, Start a1, Join a0 b4, Join a0 a2, Join a0 c5, Join a1 a3"
	rows := [][]doing{
		{
			// The first, and what End tells behind that.
			{"Drop b4", "true", "a0:[a2 c5] a1:[a3]"},
			{"End a0 5", "[a2 c5] ok", "a0=5 a1:[a3]"},
			{"Drop a2", "false", "a0=5 a1:[a3]"},
		},
		{
			// One in the middle.
			{"Drop a2", "true", "a0:[b4 c5] a1:[a3]"},
			{"End a0 5", "[b4 c5] ok", "a0=5 a1:[a3]"},
		},
		{
			// The last.
			{"Drop c5", "true", "a0:[b4 a2] a1:[a3]"},
			{"Join a0 a5", "0 false ok", "a0:[b4 a2 a5] a1:[a3]"},
			{"End a0 5", "[b4 a2 a5] ok", "a0=5 a1:[a3]"},
		},
		{
			// The only one.
			{"Drop a3", "true", "a0:[b4 a2 c5] a1:[]"},
			{"End a1 5", "[] ok", "a0:[b4 a2 c5] a1=5"},
			{"Drop a3", "false", "a0:[b4 a2 c5] a1=5"},
		},
		{
			// Twice; those that don't wait; others at places that do; none.
			{"Drop a2", "true", "a0:[b4 c5] a1:[a3]"},
			{"Drop a2", "false", "a0:[b4 c5] a1:[a3]"},
			{"Drop a0", "false", "a0:[b4 c5] a1:[a3]"},
			{"Drop a1", "false", "a0:[b4 c5] a1:[a3]"},
			{"Drop a4", "false", "a0:[b4 c5] a1:[a3]"},
			{"Drop c4", "false", "a0:[b4 c5] a1:[a3]"},
			{"Drop b5", "false", "a0:[b4 c5] a1:[a3]"},
			{"Drop b3", "false", "a0:[b4 c5] a1:[a3]"},
			{"Drop a6", "false", "a0:[b4 c5] a1:[a3]"},
			{"Drop 4", "false", "a0:[b4 c5] a1:[a3]"},
		},
		{
			// Who was dropped may join again: behind all, another one, and one that ended.
			{"Drop b4", "true", "a0:[a2 c5] a1:[a3]"},
			{"Join a0 b4", "0 false ok", "a0:[a2 c5 b4] a1:[a3]"},
			{"Drop b4", "true", "a0:[a2 c5] a1:[a3]"},
			{"Join a1 b4", "0 false ok", "a0:[a2 c5] a1:[a3 b4]"},
			{"Drop b4", "true", "a0:[a2 c5] a1:[a3]"},
			{"End a1 7", "[a3] ok", "a0:[a2 c5] a1=7"},
			{"Join a1 b4", "7 true ok", "a0:[a2 c5] a1=7"},
			{"Drop b4", "false", "a0:[a2 c5] a1=7"},
		},
		{
			// Another one waits at the place of one that was dropped.
			{"Drop b4", "true", "a0:[a2 c5] a1:[a3]"},
			{"Join a1 a4", "0 false ok", "a0:[a2 c5] a1:[a3 a4]"},
			{"Drop b4", "false", "a0:[a2 c5] a1:[a3 a4]"},
			{"Drop a4", "true", "a0:[a2 c5] a1:[a3]"},
		},
		{
			// All of one.
			{"Drop a2", "true", "a0:[b4 c5] a1:[a3]"},
			{"Drop c5", "true", "a0:[b4] a1:[a3]"},
			{"Drop b4", "true", "a0:[] a1:[a3]"},
			{"End a0 5", "[] ok", "a0=5 a1:[a3]"},
		},
	}
	for _, row := range rows {
		goes(t, 6, begin, row...)
	}
}

// P21.1, P21.2: holds asks of all that there is and isn't; here what is told stands out.
func TestAsk(t *testing.T) {
	e := begun(t, 5, "Start b0, Start a1, Start a2, Start a3, End a3 5, Start b3, End a2 6, Join b0 a4, Join b0 a1, Join a1 c2")
	for _, c := range []struct {
		of, state int
		waiters   []int
		where     int
	}{
		{id(0, 2), 1, []int{id(4, 1), id(1, 1)}, 0},
		{id(0, 1), 0, nil, 0},
		{id(0, 3), 0, nil, 0},
		{id(1, 1), 1, []int{id(2, 3)}, id(0, 2)},
		{id(1, 2), 0, nil, 0},
		{id(2, 1), 2, nil, 0},
		{id(2, 3), 0, nil, id(1, 1)},
		{id(2, 2), 0, nil, 0},
		{id(3, 1), 0, nil, 0},
		{id(3, 2), 1, nil, 0},
		{id(4, 1), 0, nil, id(0, 2)},
		{id(4, 2), 0, nil, 0},
		{id(5, 1), 0, nil, 0},
		{id(0, mostAge), 0, nil, 0},
		{lowest, 0, nil, 0}, {-1, 0, nil, 0}, {0, 0, nil, 0}, {1, 0, nil, 0}, {4, 0, nil, 0}, {highest, 0, nil, 0},
	} {
		for range 2 {
			if got := e.State(c.of); got != c.state {
				t.Errorf("State(%d): %d, want %d", c.of, got, c.state)
			}
			if got := e.Waiters(c.of); !slices.Equal(got, c.waiters) {
				t.Errorf("Waiters(%d): %v, want %v", c.of, got, c.waiters)
			}
			if got := e.Where(c.of); got != c.where {
				t.Errorf("Where(%d): %d, want %d", c.of, got, c.where)
			}
		}
	}
}

// P21.1, P21.2: ids of the greatest age, at the first and the last place.
func TestGreatestAge(t *testing.T) {
	first, last := id(0, mostAge), id(mostThreads-1, mostAge)
	e := made(t, mostThreads)
	answers(t, e, an("Start", first), "ok")
	answers(t, e, an("Start", last), "ok")
	answers(t, e, an("Join", first, last), "0 false ok")
	answers(t, e, an("Join", last, first), "0 false ok")
	answers(t, e, an("Join", last, id(0, mostAge-1)), "0 false state")
	if e.State(first) != 1 || e.State(last) != 1 || e.State(id(0, mostAge-1)) != 0 {
		t.Errorf("State: %d, %d, %d", e.State(first), e.State(last), e.State(id(0, mostAge-1)))
	}
	if e.Where(first) != last || e.Where(last) != first || e.Where(id(0, mostAge-1)) != 0 {
		t.Errorf("Where: %d, %d, %d", e.Where(first), e.Where(last), e.Where(id(0, mostAge-1)))
	}
	answers(t, e, an("End", last, -1), fmt.Sprintf("[%d] ok", first))
	answers(t, e, an("Drop", last), "true")
	answers(t, e, an("End", first, 1), "[] ok")
	answers(t, e, an("Join", last, first), "-1 true ok")
}

// spoil overwrites a list, and the spare room behind its end.
func spoil(l []int) {
	for i := range l[:cap(l)] {
		l[:cap(l)][i] = 77
	}
}

// R3
func TestAnswersAreNewMemory(t *testing.T) {
	e := begun(t, 6, "Start a0, Start a1, Join a0 b4, Join a0 a2, Join a0 c5, Join a1 a3, Join a1 a0")
	for range 2 {
		spoil(e.Waiters(id(0, 1)))
		spoil(e.Waiters(id(1, 1)))
		holds(t, e, 6, "a0:[b4 a2 c5] a1:[a3 a0]")
	}
	l, _ := e.End(id(1, 1), 5)
	spoil(l)
	holds(t, e, 6, "a0:[b4 a2 c5] a1=5")
	answers(t, e, an("End", id(0, 1), 6), "[b4 a2 c5] ok")
	holds(t, e, 6, "a0=6 a1=5")
}

// R3: what was told stays as it is, whatever is done then.
func TestAnswersStay(t *testing.T) {
	e := begun(t, 6, "Start a0, Start a1, Join a0 b4, Join a0 a2, Join a0 c5, Join a1 a3, Join a1 a0")
	first, second := e.Waiters(id(0, 1)), e.Waiters(id(1, 1))
	ended, _ := e.End(id(0, 1), 5)
	for _, a := range acts(t, "Join a1 a2, Drop a3, Join a1 b5, Start b0, Join b0 a3, Join b0 a4, End a1 7, End b0 1") {
		does(e, a)
	}
	if got := names(first); got != "[b4 a2 c5]" {
		t.Errorf("Waiters: now %s", got)
	}
	if got := names(second); got != "[a3 a0]" {
		t.Errorf("Waiters: now %s", got)
	}
	if got := names(ended); got != "[b4 a2 c5]" {
		t.Errorf("End: now %s", got)
	}
}

// copied is e's Copy, which may not be nil here.
func copied(t *testing.T, e *join.Ends) *join.Ends {
	t.Helper()
	other := e.Copy()
	if other == nil {
		t.Fatal("Copy: nil")
	}
	return other
}

// A copy knows all that what it was copied from does.
func TestCopy(t *testing.T) {
	for _, c := range []struct{ begin, told string }{
		{"", ""},
		{"Start b1", "b1:[]"},
		{"Start a0, End a0 5, Start a2, End a2 -1", "a0=5 a2=-1"},
		{"Start a0, Join a0 b1, Join a0 a2", "a0:[b1 a2]"},
		{"Start a0, Start b3, Join b3 c0, Join a0 a3, Join b3 a1, Start a4, End a4 9", "a0:[a3] b3:[c0 a1] a4=9"},
	} {
		e := begun(t, 5, c.begin)
		other := copied(t, e)
		holds(t, other, 5, c.told)
		holds(t, e, 5, c.told)
		answers(t, other, an("Start", id(5, 1)), "range")
		answers(t, other, an("Join", id(0, 1), id(5, 1)), "0 false range")
		holds(t, copied(t, other), 5, c.told)
	}
}

// What is done to one of both is not done to the other.
func TestCopyGoesItsOwnWay(t *testing.T) {
	begin, before := "Start a0, Join a0 b4, Join a0 a2, Start a1, Join a1 a3, Start c5, End c5 8", "a0:[b4 a2] a1:[a3] c5=8"
	for _, d := range []doing{
		{"Start a2", "ok", "a0:[b4 a2] a1:[a3] a2:[] c5=8"},
		{"Start a5", "ok", "a0:[b4 a2] a1:[a3] a5:[]"},
		{"End a0 5", "[b4 a2] ok", "a0=5 a1:[a3] c5=8"},
		{"End a1 5", "[a3] ok", "a0:[b4 a2] a1=5 c5=8"},
		{"Join a0 a1", "0 false ok", "a0:[b4 a2 a1] a1:[a3] c5=8"},
		{"Join a1 c5", "0 false ok", "a0:[b4 a2] a1:[a3 c5] c5=8"},
		{"Join c5 c0", "8 true ok", "a0:[b4 a2] a1:[a3] c5=8"},
		{"Drop b4", "true", "a0:[a2] a1:[a3] c5=8"},
		{"Drop a3", "true", "a0:[b4 a2] a1:[] c5=8"},
	} {
		e := begun(t, 6, begin)
		other := copied(t, e)
		a := acts(t, d.act)[0]
		answers(t, other, a, d.answer)
		holds(t, other, 6, d.told)
		holds(t, e, 6, before)
		third := copied(t, other)
		answers(t, e, a, d.answer)
		holds(t, e, 6, d.told)
		holds(t, other, 6, d.told)
		answers(t, third, an("Start", id(3, 3)), "ok")
		answers(t, third, an("Join", id(3, 3), id(0, 1)), "0 false ok")
		answers(t, third, an("Drop", id(2, 1)), fmt.Sprint(third.Where(id(2, 1)) != 0))
		holds(t, e, 6, d.told)
		holds(t, other, 6, d.told)
	}
}

// A place at which another one waits in the copy than in what it was copied from.
func TestCopyWaitsApart(t *testing.T) {
	e := begun(t, 3, "Start a0, Join a0 a1")
	other := copied(t, e)
	answers(t, other, an("Drop", id(1, 1)), "true")
	answers(t, other, an("Join", id(0, 1), id(1, 2)), "0 false ok")
	holds(t, e, 3, "a0:[a1]")
	holds(t, other, 3, "a0:[b1]")
	answers(t, e, an("End", id(0, 1), 5), "[a1] ok")
	answers(t, other, an("End", id(0, 1), 6), "[b1] ok")
	holds(t, e, 3, "a0=5")
	holds(t, other, 3, "a0=6")
}

// P1, R5: of Ends that no call made.
func TestOfNoneMade(t *testing.T) {
	numbers := append(odd(1), append(ids(2), id(0, mostAge), 2, 1023)...)
	for _, e := range []*join.Ends{nil, {}, join.New(0), join.New(-1), join.New(1025), new(join.Ends)} {
		for range 2 {
			for _, a := range numbers {
				for _, b := range numbers {
					answers(t, e, an("Join", a, b), "0 false made")
				}
				answers(t, e, an("Start", a), "made")
				answers(t, e, an("End", a, a), "[] made")
				answers(t, e, an("Drop", a), "false")
				if e.State(a) != 0 || len(e.Waiters(a)) > 0 || e.Where(a) != 0 {
					t.Errorf("of %d: %d, %v, %d", a, e.State(a), e.Waiters(a), e.Where(a))
				}
			}
			if e.Copy() != nil {
				t.Errorf("Copy: not nil")
			}
		}
	}
}
