package sema_test

import (
	"fmt"
	"math"
	"slices"
	"strconv"
	"strings"
	"testing"

	"wherry/api"
	"wherry/sema"
)

const (
	lowest      = math.MinInt
	highest     = math.MaxInt
	mostObjects = 64
	mostThreads = 1024
	mostValue   = 1000000
)

// odd are numbers that are no semaphore and no thread, in the tests here.
func odd() []int {
	return []int{lowest, lowest + 1, -1 << 32, -1024, -64, -3, -2, -1, 1024, 1025, 65536, 1 << 32, 1<<32 + 1, highest - 1, highest}
}

// act is a call that may change Semas, and its arguments, from the left.
type act struct {
	call    string
	numbers []int
}

// an is the act of these arguments.
func an(call string, numbers ...int) act {
	return act{call, numbers}
}

// acts are those of a text, as in "Down 0 1, Up 2".
func acts(t *testing.T, text string) []act {
	t.Helper()
	var l []act
	for part := range strings.SplitSeq(text, ",") {
		words := strings.Fields(part)
		if len(words) == 0 {
			continue
		}
		a := act{call: words[0]}
		for _, word := range words[1:] {
			n, err := strconv.Atoi(word)
			if err != nil {
				t.Fatal(err)
			}
			a.numbers = append(a.numbers, n)
		}
		l = append(l, a)
	}
	return l
}

// does does an act, and tells its answer as a text, as in "true ok" or "-1 ok".
func does(s *sema.Semas, a act) string {
	n := a.numbers
	switch a.call {
	case "Down":
		got, err := s.Down(n[0], n[1])
		return fmt.Sprint(got, err)
	case "Up":
		got, err := s.Up(n[0])
		return fmt.Sprint(got, err)
	case "Drop":
		return fmt.Sprint(s.Drop(n[0]))
	}
	return "there is no such call"
}

// answers does an act, and looks at the answer.
func answers(t *testing.T, s *sema.Semas, a act, want string) {
	t.Helper()
	if got := does(s, a); got != want {
		t.Errorf("%s%v: %s, want %s", a.call, a.numbers, got, want)
	}
}

// told is what s tells of that many semaphores, each with its value and those that wait
// for it, as in "3[] 0[2 1]".
func told(s *sema.Semas, objects int) string {
	var parts []string
	for o := range objects {
		parts = append(parts, fmt.Sprintf("%d%v", s.Value(o), s.Waiters(o)))
	}
	return strings.Join(parts, " ")
}

// places tells by threads for which semaphore each waits, as such a text says; -1: none.
func places(text string, threads int) []int {
	where := slices.Repeat([]int{-1}, threads)
	for o, part := range strings.Split(text, "]") {
		_, list, _ := strings.Cut(part, "[")
		for word := range strings.FieldsSeq(list) {
			thread, _ := strconv.Atoi(word)
			where[thread] = o
		}
	}
	return where
}

// holds looks that s tells just that of itself, twice; threads is how many it has.
func holds(t *testing.T, s *sema.Semas, threads int, want string) {
	t.Helper()
	objects := strings.Count(want, "[")
	where := places(want, threads)
	for range 2 {
		if got := told(s, objects); got != want {
			t.Errorf("it tells %s, want %s", got, want)
		}
		for thread, o := range where {
			if got := s.Where(thread); got != o {
				t.Errorf("Where(%d): %d, want %d", thread, got, o)
			}
		}
		for _, n := range append(odd(), threads, threads+1) {
			if got := s.Where(n); got != -1 {
				t.Errorf("Where(%d): %d, want -1", n, got)
			}
		}
		for _, n := range append(odd(), objects, objects+1, mostObjects) {
			if s.Value(n) != 0 || len(s.Waiters(n)) > 0 {
				t.Errorf("of %d: %d, %v", n, s.Value(n), s.Waiters(n))
			}
		}
	}
}

// made is New's answer, which may not be nil here.
func made(t *testing.T, objects, threads int) *sema.Semas {
	t.Helper()
	s := sema.New(objects, threads)
	if s == nil {
		t.Fatalf("New(%d, %d): nil", objects, threads)
	}
	return s
}

// fresh is what Semas tell of themselves where nothing was done yet.
func fresh(objects int) string {
	return strings.TrimSpace(strings.Repeat("0[] ", objects))
}

// begun are Semas behind those acts, of which none may be refused.
func begun(t *testing.T, objects, threads int, text string) *sema.Semas {
	t.Helper()
	s := made(t, objects, threads)
	for _, a := range acts(t, text) {
		if got := does(s, a); !strings.HasSuffix(got, "ok") && got != "true" {
			t.Fatalf("%s%v: %s", a.call, a.numbers, got)
		}
	}
	return s
}

// doing is an act, its answer, and what is told behind it.
type doing struct {
	act, answer, told string
}

// goes does those acts, behind the acts of a text, and looks at each.
func goes(t *testing.T, objects, threads int, begin string, row ...doing) {
	t.Helper()
	s := begun(t, objects, threads, begin)
	for _, d := range row {
		answers(t, s, acts(t, d.act)[0], d.answer)
		holds(t, s, threads, d.told)
		if t.Failed() {
			t.Fatalf("behind %q, at %q", begin, d.act)
		}
	}
}

// refused is an act, and its answer, behind which nothing has changed.
type refused struct {
	act    act
	answer string
}

// refuses looks that those acts change nothing behind the acts of a text.
func refuses(t *testing.T, objects, threads int, begin, before string, all ...refused) {
	t.Helper()
	s := begun(t, objects, threads, begin)
	for _, r := range all {
		answers(t, s, r.act, r.answer)
		holds(t, s, threads, before)
		if t.Failed() {
			t.Fatalf("behind %q", begin)
		}
	}
}

// The chapter's example.
func TestExample(t *testing.T) {
	goes(t, 1, 3, "",
		doing{"Up 0", "-1 ok", "1[]"},
		doing{"Down 0 1", "true ok", "0[]"},
		doing{"Down 0 2", "false ok", "0[2]"},
		doing{"Up 0", "2 ok", "0[]"},
	)
}

// P20.1
func TestNew(t *testing.T) {
	wrong := []int{lowest, lowest + 1, -1 << 32, -64, -2, -1, 0, 1<<32 + 1, highest}
	for _, objects := range append(wrong, 65, 66, 128, 1024) {
		for _, threads := range append(wrong, 1, 2, 1024, 1025) {
			if sema.New(objects, threads) != nil {
				t.Errorf("New(%d, %d): not nil", objects, threads)
			}
		}
	}
	for _, threads := range append(wrong, 1025, 1026, 4096) {
		for _, objects := range append(wrong, 1, 2, 64, 65) {
			if sema.New(objects, threads) != nil {
				t.Errorf("New(%d, %d): not nil", objects, threads)
			}
		}
	}
	for _, objects := range []int{1, 2, 4, 63, 64} {
		for _, threads := range []int{1, 2, 32, 1023, 1024} {
			s := made(t, objects, threads)
			if got := told(s, objects); got != fresh(objects) {
				t.Errorf("New(%d, %d): %s", objects, threads, got)
			}
			for _, thread := range []int{-1, 0, threads / 2, threads - 1, threads} {
				if got := s.Where(thread); got != -1 {
					t.Errorf("New(%d, %d), Where(%d): %d", objects, threads, thread, got)
				}
			}
		}
	}
}

// P20.1: the first and the last semaphore and thread are there, and the next ones aren't.
func TestNewTellsSoMany(t *testing.T) {
	for _, objects := range []int{1, 2, 63, 64} {
		for _, threads := range []int{1, 2, 1023, 1024} {
			s := made(t, objects, threads)
			answers(t, s, an("Up", 0), "-1 ok")
			answers(t, s, an("Down", 0, threads-1), "true ok")
			answers(t, s, an("Down", objects-1, threads-1), "false ok")
			answers(t, s, an("Down", objects, threads-1), "false range")
			answers(t, s, an("Down", objects-1, threads), "false range")
			answers(t, s, an("Down", -1, 0), "false range")
			answers(t, s, an("Down", 0, -1), "false range")
			answers(t, s, an("Up", objects), "0 range")
			answers(t, s, an("Up", -1), "0 range")
			answers(t, s, an("Drop", threads), "false")
			answers(t, s, an("Drop", -1), "false")
			if got := s.Where(threads - 1); got != objects-1 {
				t.Errorf("Where(%d): %d, want %d", threads-1, got, objects-1)
			}
			if got := s.Waiters(objects - 1); !slices.Equal(got, []int{threads - 1}) {
				t.Errorf("Waiters(%d): %v", objects-1, got)
			}
			answers(t, s, an("Up", objects-1), fmt.Sprint(threads-1, api.OK))
		}
	}
}

func TestNewTellsSemasOfTheirOwn(t *testing.T) {
	a, b := made(t, 2, 3), made(t, 2, 3)
	answers(t, a, an("Up", 0), "-1 ok")
	answers(t, a, an("Down", 1, 2), "false ok")
	holds(t, a, 3, "1[] 0[2]")
	holds(t, b, 3, fresh(2))
}

// P20.1
func TestDown(t *testing.T) {
	// A value of 0: they wait in the order in which they come, whatever their numbers are.
	goes(t, 2, 5, "",
		doing{"Down 0 3", "false ok", "0[3] 0[]"},
		doing{"Down 0 4", "false ok", "0[3 4] 0[]"},
		doing{"Down 1 2", "false ok", "0[3 4] 0[2]"},
		doing{"Down 0 0", "false ok", "0[3 4 0] 0[2]"},
		doing{"Down 1 1", "false ok", "0[3 4 0] 0[2 1]"},
	)
	// A value of 1, and one of more; a thread may have a semaphore again and again.
	goes(t, 3, 4, "Up 0, Up 1, Up 1, Up 1",
		doing{"Down 0 1", "true ok", "0[] 3[] 0[]"},
		doing{"Down 1 1", "true ok", "0[] 2[] 0[]"},
		doing{"Down 1 1", "true ok", "0[] 1[] 0[]"},
		doing{"Down 0 0", "false ok", "0[0] 1[] 0[]"},
		doing{"Down 1 3", "true ok", "0[0] 0[] 0[]"},
		doing{"Down 1 1", "false ok", "0[0] 0[1] 0[]"},
		doing{"Down 2 3", "false ok", "0[0] 0[1] 0[3]"},
	)
	goes(t, 1, 1, "",
		doing{"Down 0 0", "false ok", "0[0]"},
		doing{"Up 0", "0 ok", "0[]"},
		doing{"Up 0", "-1 ok", "1[]"},
		doing{"Down 0 0", "true ok", "0[]"},
	)
}

// P20.1
func TestDownErrState(t *testing.T) {
	// 1 and 2 wait for 0, and 3 for 2; 1 is above 0.
	begin, before := "Down 0 1, Down 0 2, Up 1, Down 2 3", "0[1 2] 1[] 0[3]"
	var all []refused
	for _, thread := range []int{1, 2, 3} {
		for o := range 3 {
			all = append(all, refused{an("Down", o, thread), "false state"})
		}
	}
	refuses(t, 3, 5, begin, before, all...)
	// One that waited, and does no more, may go on, and wait again.
	goes(t, 3, 5, begin,
		doing{"Up 0", "1 ok", "0[2] 1[] 0[3]"},
		doing{"Down 1 1", "true ok", "0[2] 0[] 0[3]"},
		doing{"Down 2 1", "false ok", "0[2] 0[] 0[3 1]"},
		doing{"Down 0 1", "false state", "0[2] 0[] 0[3 1]"},
	)
}

// P20.1: ErrRange, also where the thread waits, the value is 0, or it is above 0.
func TestErrRange(t *testing.T) {
	begin, before := "Up 0, Down 1 1, Down 1 3", "1[] 0[1 3]"
	for _, n := range append(odd(), 4, 5) {
		all := []refused{
			{an("Up", n), "0 range"},
			{an("Down", n, n), "false range"},
			{an("Down", 0, n), "false range"},
			{an("Down", 1, n), "false range"},
			{an("Drop", n), "false"},
		}
		for thread := range 4 {
			all = append(all, refused{an("Down", n, thread), "false range"})
			all = append(all, refused{an("Down", 2, thread), "false range"})
		}
		refuses(t, 2, 4, begin, before, all...)
	}
	refuses(t, 2, 4, begin, before, refused{an("Up", 2), "0 range"}, refused{an("Up", 3), "0 range"})
}

// P20.1
func TestUp(t *testing.T) {
	// Nobody waits for it, though somebody waits for another one.
	goes(t, 2, 3, "Down 1 0",
		doing{"Up 0", "-1 ok", "1[] 0[0]"},
		doing{"Up 0", "-1 ok", "2[] 0[0]"},
		doing{"Up 0", "-1 ok", "3[] 0[0]"},
		// One waits.
		doing{"Up 1", "0 ok", "3[] 0[]"},
		doing{"Up 1", "-1 ok", "3[] 1[]"},
	)
	// Several do: the first that came is told, whatever its number is, and the value stays.
	goes(t, 2, 6, "Down 0 4, Down 0 2, Down 0 5, Down 1 3, Down 0 0",
		doing{"Up 0", "4 ok", "0[2 5 0] 0[3]"},
		// Who waits again comes behind all.
		doing{"Down 0 4", "false ok", "0[2 5 0 4] 0[3]"},
		doing{"Up 0", "2 ok", "0[5 0 4] 0[3]"},
		doing{"Up 1", "3 ok", "0[5 0 4] 0[]"},
		doing{"Down 0 3", "false ok", "0[5 0 4 3] 0[]"},
		doing{"Up 0", "5 ok", "0[0 4 3] 0[]"},
		doing{"Up 0", "0 ok", "0[4 3] 0[]"},
		doing{"Up 0", "4 ok", "0[3] 0[]"},
		doing{"Up 0", "3 ok", "0[] 0[]"},
		doing{"Up 0", "-1 ok", "1[] 0[]"},
	)
}

// raised are Semas of three semaphores, of which number 1 has that value, by Ups alone.
func raised(t *testing.T, value int) *sema.Semas {
	t.Helper()
	s := made(t, 3, 4)
	for range value {
		if told, err := s.Up(1); told != -1 || err != api.OK {
			t.Fatalf("Up(1): %d, %v", told, err)
		}
	}
	return s
}

// P20.1
func TestUpErrFull(t *testing.T) {
	s := raised(t, mostValue-1)
	holds(t, s, 4, "0[] 999999[] 0[]")
	answers(t, s, an("Up", 1), "-1 ok")
	holds(t, s, 4, "0[] 1000000[] 0[]")
	for range 2 {
		answers(t, s, an("Up", 1), "0 full")
		holds(t, s, 4, "0[] 1000000[] 0[]")
	}
	// Others aren't full, and ErrRange stays.
	answers(t, s, an("Up", 0), "-1 ok")
	answers(t, s, an("Up", 3), "0 range")
	other := copied(t, s)
	// One less, and there is room again, just once.
	answers(t, s, an("Down", 1, 2), "true ok")
	holds(t, s, 4, "1[] 999999[] 0[]")
	answers(t, s, an("Up", 1), "-1 ok")
	answers(t, s, an("Up", 1), "0 full")
	answers(t, s, an("Up", 1), "0 full")
	holds(t, s, 4, "1[] 1000000[] 0[]")
	answers(t, other, an("Up", 1), "0 full")
	holds(t, other, 4, "1[] 1000000[] 0[]")
	// All the way down, and no further.
	for range mostValue {
		if ok, err := s.Down(1, 3); !ok || err != api.OK {
			t.Fatalf("Down(1, 3): %v, %v", ok, err)
		}
	}
	answers(t, s, an("Down", 1, 3), "false ok")
	holds(t, s, 4, "1[] 0[3] 0[]")
	answers(t, s, an("Up", 1), "3 ok")
	holds(t, s, 4, "1[] 0[] 0[]")
	holds(t, other, 4, "1[] 1000000[] 0[]")
}

// P20.1
func TestDrop(t *testing.T) {
	begin := "Down 0 4, Down 0 2, Down 0 5, Down 1 3, Up 2"
	rows := [][]doing{
		{
			// The first, and what Up tells behind that.
			{"Drop 4", "true", "0[2 5] 0[3] 1[]"},
			{"Up 0", "2 ok", "0[5] 0[3] 1[]"},
			{"Drop 2", "false", "0[5] 0[3] 1[]"},
		},
		{
			// One in the middle.
			{"Drop 2", "true", "0[4 5] 0[3] 1[]"},
			{"Up 0", "4 ok", "0[5] 0[3] 1[]"},
			{"Up 0", "5 ok", "0[] 0[3] 1[]"},
			{"Up 0", "-1 ok", "1[] 0[3] 1[]"},
		},
		{
			// The last.
			{"Drop 5", "true", "0[4 2] 0[3] 1[]"},
			{"Down 0 0", "false ok", "0[4 2 0] 0[3] 1[]"},
			{"Up 0", "4 ok", "0[2 0] 0[3] 1[]"},
			{"Up 0", "2 ok", "0[0] 0[3] 1[]"},
			{"Up 0", "0 ok", "0[] 0[3] 1[]"},
		},
		{
			// The only one; the value is not 1 more by that.
			{"Drop 3", "true", "0[4 2 5] 0[] 1[]"},
			{"Up 1", "-1 ok", "0[4 2 5] 1[] 1[]"},
			{"Drop 3", "false", "0[4 2 5] 1[] 1[]"},
		},
		{
			// Twice; one that doesn't wait; no such thread.
			{"Drop 2", "true", "0[4 5] 0[3] 1[]"},
			{"Drop 2", "false", "0[4 5] 0[3] 1[]"},
			{"Drop 0", "false", "0[4 5] 0[3] 1[]"},
			{"Drop 6", "false", "0[4 5] 0[3] 1[]"},
			{"Drop -1", "false", "0[4 5] 0[3] 1[]"},
		},
		{
			// A Down of one that was dropped: behind all, of another one, and let through.
			{"Drop 4", "true", "0[2 5] 0[3] 1[]"},
			{"Down 0 4", "false ok", "0[2 5 4] 0[3] 1[]"},
			{"Drop 4", "true", "0[2 5] 0[3] 1[]"},
			{"Down 1 4", "false ok", "0[2 5] 0[3 4] 1[]"},
			{"Drop 4", "true", "0[2 5] 0[3] 1[]"},
			{"Down 2 4", "true ok", "0[2 5] 0[3] 0[]"},
			{"Drop 4", "false", "0[2 5] 0[3] 0[]"},
			{"Down 2 4", "false ok", "0[2 5] 0[3] 0[4]"},
		},
		{
			// All of one.
			{"Drop 2", "true", "0[4 5] 0[3] 1[]"},
			{"Drop 5", "true", "0[4] 0[3] 1[]"},
			{"Drop 4", "true", "0[] 0[3] 1[]"},
			{"Up 0", "-1 ok", "1[] 0[3] 1[]"},
			{"Down 0 5", "true ok", "0[] 0[3] 1[]"},
		},
	}
	for _, row := range rows {
		goes(t, 3, 6, begin, row...)
	}
}

// P20.1: one that was let through has nothing that Drop could give back.
func TestDropGivesNothingBack(t *testing.T) {
	goes(t, 1, 3, "Up 0, Down 0 1, Down 0 2",
		doing{"Drop 1", "false", "0[2]"},
		doing{"Up 0", "2 ok", "0[]"},
		doing{"Drop 2", "false", "0[]"},
	)
}

// P20.1: holds asks of all that there is and isn't; here what is told stands out.
func TestAsk(t *testing.T) {
	s := begun(t, 4, 5, "Up 0, Up 0, Up 0, Down 1 4, Down 1 0, Down 1 2, Up 3, Down 3 3")
	for _, c := range []struct {
		number, value int
		waiters       []int
	}{
		{0, 3, nil}, {1, 0, []int{4, 0, 2}}, {2, 0, nil}, {3, 0, nil},
		{-2, 0, nil}, {-1, 0, nil}, {4, 0, nil}, {5, 0, nil}, {63, 0, nil}, {64, 0, nil}, {lowest, 0, nil}, {highest, 0, nil},
	} {
		for range 2 {
			if got := s.Value(c.number); got != c.value {
				t.Errorf("Value(%d): %d, want %d", c.number, got, c.value)
			}
			if got := s.Waiters(c.number); !slices.Equal(got, c.waiters) {
				t.Errorf("Waiters(%d): %v, want %v", c.number, got, c.waiters)
			}
		}
	}
	for _, c := range []struct{ thread, number int }{
		{0, 1}, {1, -1}, {2, 1}, {3, -1}, {4, 1},
		{5, -1}, {6, -1}, {-1, -1}, {-2, -1}, {lowest, -1}, {highest, -1},
	} {
		for range 2 {
			if got := s.Where(c.thread); got != c.number {
				t.Errorf("Where(%d): %d, want %d", c.thread, got, c.number)
			}
		}
	}
}

// spoil overwrites a list, and the spare room behind its end.
func spoil(l []int) {
	for i := range l[:cap(l)] {
		l[:cap(l)][i] = 77
	}
}

// R3
func TestAnswersAreNewMemory(t *testing.T) {
	s := begun(t, 2, 6, "Down 0 4, Down 0 2, Down 0 5, Down 1 3, Down 1 0")
	for range 2 {
		spoil(s.Waiters(0))
		spoil(s.Waiters(1))
		holds(t, s, 6, "0[4 2 5] 0[3 0]")
	}
	answers(t, s, an("Up", 0), "4 ok")
	holds(t, s, 6, "0[2 5] 0[3 0]")
}

// R3: what was told stays as it is, whatever is done then.
func TestAnswersStay(t *testing.T) {
	s := begun(t, 2, 6, "Down 0 4, Down 0 2, Down 0 5, Down 1 3")
	first, second := s.Waiters(0), s.Waiters(1)
	for _, a := range acts(t, "Up 0, Down 0 1, Drop 5, Up 1, Down 1 4, Up 0, Up 0, Up 0, Down 1 0") {
		does(s, a)
	}
	if !slices.Equal(first, []int{4, 2, 5}) || !slices.Equal(second, []int{3}) {
		t.Errorf("now %v and %v", first, second)
	}
}

// copied is s's Copy, which may not be nil here.
func copied(t *testing.T, s *sema.Semas) *sema.Semas {
	t.Helper()
	other := s.Copy()
	if other == nil {
		t.Fatal("Copy: nil")
	}
	return other
}

// A copy knows all that what it was copied from does.
func TestCopy(t *testing.T) {
	for _, c := range []struct{ begin, told string }{
		{"", "0[] 0[] 0[]"},
		{"Up 1", "0[] 1[] 0[]"},
		{"Up 2, Up 2, Up 0", "1[] 0[] 2[]"},
		{"Down 0 1", "0[1] 0[] 0[]"},
		{"Down 0 4, Down 0 1, Up 1, Down 2 3, Down 2 0", "0[4 1] 1[] 0[3 0]"},
	} {
		s := begun(t, 3, 5, c.begin)
		other := copied(t, s)
		holds(t, other, 5, c.told)
		holds(t, s, 5, c.told)
		answers(t, other, an("Down", 3, 0), "false range")
		answers(t, other, an("Down", 0, 5), "false range")
		answers(t, other, an("Up", 3), "0 range")
		holds(t, copied(t, other), 5, c.told)
	}
}

// What is done to one of both is not done to the other.
func TestCopyGoesItsOwnWay(t *testing.T) {
	begin, before := "Down 0 4, Down 0 2, Up 1, Down 2 3", "0[4 2] 1[] 0[3]"
	for _, d := range []doing{
		{"Up 0", "4 ok", "0[2] 1[] 0[3]"},
		{"Up 1", "-1 ok", "0[4 2] 2[] 0[3]"},
		{"Up 2", "3 ok", "0[4 2] 1[] 0[]"},
		{"Down 0 0", "false ok", "0[4 2 0] 1[] 0[3]"},
		{"Down 1 0", "true ok", "0[4 2] 0[] 0[3]"},
		{"Drop 2", "true", "0[4] 1[] 0[3]"},
		{"Drop 3", "true", "0[4 2] 1[] 0[]"},
	} {
		s := begun(t, 3, 6, begin)
		other := copied(t, s)
		a := acts(t, d.act)[0]
		answers(t, other, a, d.answer)
		holds(t, other, 6, d.told)
		holds(t, s, 6, before)
		third := copied(t, other)
		answers(t, s, a, d.answer)
		holds(t, s, 6, d.told)
		holds(t, other, 6, d.told)
		answers(t, third, an("Down", 2, 5), "false ok")
		answers(t, third, an("Up", 1), "-1 ok")
		holds(t, s, 6, d.told)
		holds(t, other, 6, d.told)
	}
}

// P1, R5: of Semas that no call made.
func TestOfNoneMade(t *testing.T) {
	numbers := append(odd(), 0, 1, 2, 63, 64, 1023)
	for _, s := range []*sema.Semas{nil, {}, sema.New(0, 1), sema.New(1, 0), sema.New(65, 1), sema.New(1, 1025), new(sema.Semas)} {
		for range 2 {
			for _, a := range numbers {
				for _, b := range numbers {
					answers(t, s, an("Down", a, b), "false made")
				}
				answers(t, s, an("Up", a), "-1 made")
				answers(t, s, an("Drop", a), "false")
				if s.Value(a) != 0 || len(s.Waiters(a)) > 0 || s.Where(a) != -1 {
					t.Errorf("of %d: %d, %v, %d", a, s.Value(a), s.Waiters(a), s.Where(a))
				}
			}
			if s.Copy() != nil {
				t.Errorf("Copy: not nil")
			}
		}
	}
}
