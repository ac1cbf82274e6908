package lock_test

import (
	"fmt"
	"math"
	"slices"
	"strconv"
	"strings"
	"testing"

	"wherry/api"
	"wherry/lock"
)

const (
	lowest      = math.MinInt
	highest     = math.MaxInt
	mostObjects = 64
	mostThreads = 1024
)

// odd are numbers that are no lock, no condition and no thread, in the tests here.
func odd() []int {
	return []int{lowest, lowest + 1, -1 << 32, -1024, -64, -3, -2, -1, 1024, 1025, 65536, 1 << 32, 1<<32 + 1, highest - 1, highest}
}

// act is a call that may change Locks, and its arguments, from the left.
type act struct {
	call    string
	numbers []int
}

// an is the act of these arguments.
func an(call string, numbers ...int) act {
	return act{call, numbers}
}

// acts are those of a text, as in "Lock 0 1, Signal 2".
func acts(t *testing.T, text string) []act {
	t.Helper()
	var l []act
	for part := range strings.SplitSeq(text, ",") {
		words := strings.Fields(part)
		if len(words) == 0 {
			continue
		}
		a := act{call: words[0]}
		for _, word := range words[1:] {
			n, err := strconv.Atoi(word)
			if err != nil {
				t.Fatal(err)
			}
			a.numbers = append(a.numbers, n)
		}
		l = append(l, a)
	}
	return l
}

// does does an act, and tells its answer as a text, as in "true ok" or "[1 2]".
func does(l *lock.Locks, a act) string {
	n := a.numbers
	switch a.call {
	case "Lock":
		got, err := l.Lock(n[0], n[1])
		return fmt.Sprint(got, err)
	case "Unlock":
		got, err := l.Unlock(n[0], n[1])
		return fmt.Sprint(got, err)
	case "Wait":
		got, err := l.Wait(n[0], n[1], n[2])
		return fmt.Sprint(got, err)
	case "Signal":
		got, err := l.Signal(n[0])
		return fmt.Sprint(got, err)
	case "Cast":
		got, err := l.Cast(n[0])
		return fmt.Sprint(got, err)
	case "Drop":
		return fmt.Sprint(l.Drop(n[0]))
	}
	return "there is no such call"
}

// answers does an act, and looks at the answer.
func answers(t *testing.T, l *lock.Locks, a act, want string) {
	t.Helper()
	if got := does(l, a); got != want {
		t.Errorf("%s%v: %s, want %s", a.call, a.numbers, got, want)
	}
}

// told is what l tells of that many locks, each with its owner and those that wait for
// it, and of as many conditions, each with those that wait for it, as in
// "[1 2 3] [-] | [] [4]".
func told(l *lock.Locks, objects int) string {
	var parts []string
	for o := range objects {
		owner := "-"
		if l.Owner(o) != -1 {
			owner = strconv.Itoa(l.Owner(o))
		}
		waiters := strings.Trim(fmt.Sprint(l.Waiters(o)), "[]")
		parts = append(parts, "["+strings.TrimSpace(owner+" "+waiters)+"]")
	}
	parts = append(parts, "|")
	for c := range objects {
		parts = append(parts, fmt.Sprint(l.Sleepers(c)))
	}
	return strings.Join(parts, " ")
}

// places are those at which a thread waits, as far as the lists tell.
func places(l *lock.Locks, objects, thread int) [][2]int {
	var all [][2]int
	for n := range objects {
		for _, w := range l.Waiters(n) {
			if w == thread {
				all = append(all, [2]int{1, n})
			}
		}
		for _, s := range l.Sleepers(n) {
			if s == thread {
				all = append(all, [2]int{2, n})
			}
		}
	}
	return all
}

// where looks that Where tells of a thread what the lists tell.
func where(t *testing.T, l *lock.Locks, objects, thread int) {
	t.Helper()
	want := [2]int{0, -1}
	if all := places(l, objects, thread); len(all) == 1 {
		want = all[0]
	}
	if kind, number := l.Where(thread); kind != want[0] || number != want[1] {
		t.Errorf("Where(%d): %d, %d, want %v", thread, kind, number, want)
	}
}

// holds looks that l tells just that of itself, twice; threads is how many it has.
func holds(t *testing.T, l *lock.Locks, threads int, want string) {
	t.Helper()
	locks, _, _ := strings.Cut(want, "|")
	objects := strings.Count(locks, "[")
	for range 2 {
		if got := told(l, objects); got != want {
			t.Errorf("it tells %s, want %s", got, want)
		}
		for thread := range threads {
			where(t, l, objects, thread)
		}
		for _, n := range append(odd(), threads, threads+1) {
			where(t, l, objects, n)
		}
		for _, n := range append(odd(), objects, objects+1, 2*objects) {
			if l.Owner(n) != -1 || len(l.Waiters(n)) > 0 || len(l.Sleepers(n)) > 0 {
				t.Errorf("of %d: %d, %v, %v", n, l.Owner(n), l.Waiters(n), l.Sleepers(n))
			}
		}
	}
}

// made is New's answer, which may not be nil here.
func made(t *testing.T, objects, threads int) *lock.Locks {
	t.Helper()
	l := lock.New(objects, threads)
	if l == nil {
		t.Fatalf("New(%d, %d): nil", objects, threads)
	}
	return l
}

// free is what Locks tell of themselves where nothing was done yet.
func free(objects int) string {
	return strings.Repeat("[-] ", objects) + "|" + strings.Repeat(" []", objects)
}

// begun are Locks behind those acts, of which none may be refused.
func begun(t *testing.T, objects, threads int, text string) *lock.Locks {
	t.Helper()
	l := made(t, objects, threads)
	for _, a := range acts(t, text) {
		if got := does(l, a); a.call != "Drop" && !strings.HasSuffix(got, "ok") {
			t.Fatalf("%s%v: %s", a.call, a.numbers, got)
		}
	}
	return l
}

// doing is an act, its answer, and what is told behind it.
type doing struct {
	act, answer, told string
}

// goes does those acts, behind the acts of a text, and looks at each.
func goes(t *testing.T, objects, threads int, begin string, row ...doing) {
	t.Helper()
	l := begun(t, objects, threads, begin)
	for _, d := range row {
		answers(t, l, acts(t, d.act)[0], d.answer)
		holds(t, l, threads, d.told)
		if t.Failed() {
			t.Fatalf("behind %q, at %q", begin, d.act)
		}
	}
}

// refused is an act, and its answer, behind which nothing has changed.
type refused struct {
	act    act
	answer string
}

// refuses looks that those acts change nothing behind the acts of a text.
func refuses(t *testing.T, objects, threads int, begin string, all ...refused) {
	t.Helper()
	l := begun(t, objects, threads, begin)
	before := told(l, objects)
	for _, r := range all {
		answers(t, l, r.act, r.answer)
		holds(t, l, threads, before)
		if t.Failed() {
			t.Fatalf("behind %q", begin)
		}
	}
}

// The chapter's example.
func TestExample(t *testing.T) {
	goes(t, 1, 3, "",
		doing{"Lock 0 1", "true ok", "[1] | []"},
		doing{"Lock 0 2", "false ok", "[1 2] | []"},
		doing{"Unlock 0 1", "2 ok", "[2] | []"},
	)
}

// P19.1
func TestNew(t *testing.T) {
	wrong := []int{lowest, lowest + 1, -1 << 32, -64, -2, -1, 0, 1<<32 + 1, highest}
	for _, objects := range append(wrong, 65, 66, 128, 1024) {
		for _, threads := range append(wrong, 1, 2, 1024, 1025) {
			if lock.New(objects, threads) != nil {
				t.Errorf("New(%d, %d): not nil", objects, threads)
			}
		}
	}
	for _, threads := range append(wrong, 1025, 1026, 4096) {
		for _, objects := range append(wrong, 1, 2, 64, 65) {
			if lock.New(objects, threads) != nil {
				t.Errorf("New(%d, %d): not nil", objects, threads)
			}
		}
	}
	for _, objects := range []int{1, 2, 4, 63, 64} {
		for _, threads := range []int{1, 2, 32, 1023, 1024} {
			l := made(t, objects, threads)
			if got := told(l, objects); got != free(objects) {
				t.Errorf("New(%d, %d): %s", objects, threads, got)
			}
			for _, thread := range []int{-1, 0, threads / 2, threads - 1, threads} {
				if kind, number := l.Where(thread); kind != 0 || number != -1 {
					t.Errorf("New(%d, %d), Where(%d): %d, %d", objects, threads, thread, kind, number)
				}
			}
		}
	}
}

func TestNewTellsLocksOfTheirOwn(t *testing.T) {
	a, b := made(t, 2, 3), made(t, 2, 3)
	answers(t, a, an("Lock", 0, 1), "true ok")
	holds(t, a, 3, "[1] [-] | [] []")
	holds(t, b, 3, free(2))
}

// P19.1
func TestLock(t *testing.T) {
	goes(t, 3, 5, "",
		doing{"Lock 0 0", "true ok", "[0] [-] [-] | [] [] []"},
		doing{"Lock 2 4", "true ok", "[0] [-] [4] | [] [] []"},
		// A second lock, and a third.
		doing{"Lock 1 0", "true ok", "[0] [0] [4] | [] [] []"},
		doing{"Lock 2 0", "false ok", "[0] [0] [4 0] | [] [] []"},
		// They wait in the order in which they come, whatever their numbers are.
		doing{"Lock 0 3", "false ok", "[0 3] [0] [4 0] | [] [] []"},
		doing{"Lock 0 1", "false ok", "[0 3 1] [0] [4 0] | [] [] []"},
		doing{"Lock 0 2", "false ok", "[0 3 1 2] [0] [4 0] | [] [] []"},
		// Each waits for the other one.
		doing{"Lock 1 4", "false ok", "[0 3 1 2] [0 4] [4 0] | [] [] []"},
	)
	goes(t, 1, 1, "",
		doing{"Lock 0 0", "true ok", "[0] | []"},
		doing{"Unlock 0 0", "-1 ok", "[-] | []"},
		doing{"Lock 0 0", "true ok", "[0] | []"},
	)
}

// P19.1
func TestLockErrState(t *testing.T) {
	// 1 has 0; 2 waits for 0; 3 waits for condition 0 and is to have 1, and has 2.
	begin := "Lock 0 1, Lock 0 2, Lock 1 3, Lock 2 3, Wait 0 1 3"
	refuses(t, 4, 5, begin,
		refused{an("Lock", 0, 1), "false state"},
		refused{an("Lock", 0, 2), "false state"},
		refused{an("Lock", 1, 2), "false state"},
		refused{an("Lock", 2, 2), "false state"},
		refused{an("Lock", 3, 2), "false state"},
		refused{an("Lock", 0, 3), "false state"},
		refused{an("Lock", 1, 3), "false state"},
		refused{an("Lock", 2, 3), "false state"},
		refused{an("Lock", 3, 3), "false state"},
	)
	// What 3 is to have again is free for others.
	goes(t, 4, 5, begin, doing{"Lock 1 4", "true ok", "[1 2] [4] [3] [-] | [3] [] [] []"})
}

// P19.1
func TestLockAndUnlockErrRange(t *testing.T) {
	// 1 has both locks, 2 waits, and 3 would have them.
	begin := "Lock 0 1, Lock 1 1, Lock 0 2"
	for _, n := range append(odd(), 4) {
		refuses(t, 2, 4, begin,
			refused{an("Lock", n, 1), "false range"},
			refused{an("Lock", n, 2), "false range"},
			refused{an("Lock", n, 3), "false range"},
			refused{an("Lock", 0, n), "false range"},
			refused{an("Lock", n, n), "false range"},
			refused{an("Unlock", n, 1), "-1 range"},
			refused{an("Unlock", n, 2), "-1 range"},
			refused{an("Unlock", n, 3), "-1 range"},
			refused{an("Unlock", 0, n), "-1 range"},
			refused{an("Unlock", n, n), "-1 range"},
		)
	}
	refuses(t, 2, 4, begin,
		refused{an("Lock", 2, 1), "false range"},
		refused{an("Lock", 2, 2), "false range"},
		refused{an("Lock", 2, 3), "false range"},
		refused{an("Unlock", 2, 1), "-1 range"},
		refused{an("Unlock", 2, 2), "-1 range"},
		refused{an("Unlock", 2, 3), "-1 range"},
	)
}

// P19.1
func TestUnlock(t *testing.T) {
	goes(t, 2, 5, "Lock 0 4, Lock 0 2, Lock 0 0, Lock 0 3, Lock 1 1",
		doing{"Unlock 0 4", "2 ok", "[2 0 3] [1] | [] []"},
		// Who had it comes behind all.
		doing{"Lock 0 4", "false ok", "[2 0 3 4] [1] | [] []"},
		doing{"Unlock 0 2", "0 ok", "[0 3 4] [1] | [] []"},
		doing{"Unlock 0 0", "3 ok", "[3 4] [1] | [] []"},
		doing{"Unlock 1 1", "-1 ok", "[3 4] [-] | [] []"},
		doing{"Unlock 0 3", "4 ok", "[4] [-] | [] []"},
		doing{"Unlock 0 4", "-1 ok", "[-] [-] | [] []"},
		doing{"Lock 0 0", "true ok", "[0] [-] | [] []"},
	)
	// Of several locks the one that is named goes, and it may be the last one.
	goes(t, 3, 3, "Lock 0 1, Lock 1 1, Lock 2 1, Lock 1 0, Lock 2 2",
		doing{"Unlock 2 1", "2 ok", "[1] [1 0] [2] | [] [] []"},
		doing{"Unlock 0 1", "-1 ok", "[-] [1 0] [2] | [] [] []"},
		doing{"Unlock 1 1", "0 ok", "[-] [0] [2] | [] [] []"},
	)
}

// P19.1
func TestUnlockRefused(t *testing.T) {
	// 1 has 0, and waits for 1; 2 has 1; 0 waits for 0; 3 waits for condition 1, and has 2.
	refuses(t, 4, 5, "Lock 0 1, Lock 1 2, Lock 1 1, Lock 0 0, Lock 2 3, Lock 3 3, Wait 1 3 3",
		// A free one, and others' ones.
		refused{an("Unlock", 3, 4), "-1 owner"},
		refused{an("Unlock", 0, 4), "-1 owner"},
		refused{an("Unlock", 0, 2), "-1 owner"},
		refused{an("Unlock", 2, 2), "-1 owner"},
		refused{an("Unlock", 3, 2), "-1 owner"},
		// ErrState is named ahead of ErrOwner.
		refused{an("Unlock", 0, 0), "-1 state"},
		refused{an("Unlock", 1, 0), "-1 state"},
		refused{an("Unlock", 1, 1), "-1 state"},
		refused{an("Unlock", 2, 3), "-1 state"},
		refused{an("Unlock", 3, 3), "-1 state"},
		refused{an("Unlock", 0, 3), "-1 state"},
		// And a lock that one has isn't given up while one waits.
		refused{an("Unlock", 0, 1), "-1 state"},
	)
}

// P19.1
func TestWait(t *testing.T) {
	goes(t, 3, 6, "Lock 0 5, Lock 1 4, Lock 1 3, Lock 1 2",
		// Nobody waits for the lock.
		doing{"Wait 0 0 5", "-1 ok", "[-] [4 3 2] [-] | [5] [] []"},
		// Some do; the condition has another number than the lock.
		doing{"Wait 0 1 4", "3 ok", "[-] [3 2] [-] | [5 4] [] []"},
		doing{"Wait 2 1 3", "2 ok", "[-] [2] [-] | [5 4] [] [3]"},
		doing{"Wait 0 1 2", "-1 ok", "[-] [-] [-] | [5 4 2] [] [3]"},
		doing{"Lock 1 1", "true ok", "[-] [1] [-] | [5 4 2] [] [3]"},
		doing{"Wait 2 1 1", "-1 ok", "[-] [-] [-] | [5 4 2] [] [3 1]"},
	)
	// Who has several locks keeps the others.
	goes(t, 3, 4, "Lock 0 1, Lock 1 1, Lock 2 1, Lock 0 2, Lock 1 3",
		doing{"Wait 2 1 1", "3 ok", "[1 2] [3] [1] | [] [] [1]"},
		doing{"Signal 2", "-1 ok", "[1 2] [3 1] [1] | [] [] []"},
		doing{"Unlock 1 3", "1 ok", "[1 2] [1] [1] | [] [] []"},
		doing{"Wait 0 0 1", "2 ok", "[2] [1] [1] | [1] [] []"},
	)
}

// P19.1
func TestWaitRefused(t *testing.T) {
	// 1 has 0 and 1; 0 waits for 1; 2 waits for condition 1, and has 2; 3 has nothing.
	begin := "Lock 0 1, Lock 1 1, Lock 1 0, Lock 2 2, Lock 3 2, Wait 1 3 2"
	refuses(t, 4, 5, begin,
		refused{an("Wait", 0, 0, 3), "-1 owner"},
		refused{an("Wait", 0, 3, 3), "-1 owner"},
		refused{an("Wait", 0, 2, 1), "-1 owner"},
		refused{an("Wait", 0, 3, 1), "-1 owner"},
		// ErrState is named ahead of ErrOwner.
		refused{an("Wait", 0, 0, 0), "-1 state"},
		refused{an("Wait", 0, 1, 0), "-1 state"},
		refused{an("Wait", 0, 2, 2), "-1 state"},
		refused{an("Wait", 1, 3, 2), "-1 state"},
		refused{an("Wait", 2, 3, 2), "-1 state"},
		refused{an("Wait", 2, 0, 2), "-1 state"},
	)
	// ErrRange is named ahead of both.
	for _, n := range append(odd(), 5) {
		for thread := range 4 {
			refuses(t, 4, 5, begin,
				refused{an("Wait", n, 0, thread), "-1 range"},
				refused{an("Wait", n, 3, thread), "-1 range"},
				refused{an("Wait", 0, n, thread), "-1 range"},
				refused{an("Wait", n, n, thread), "-1 range"},
				refused{an("Wait", 4, 0, thread), "-1 range"},
				refused{an("Wait", 0, 4, thread), "-1 range"},
				refused{an("Wait", 0, thread, n), "-1 range"},
				refused{an("Wait", n, n, n), "-1 range"},
			)
		}
	}
}

// P19.2
func TestSignal(t *testing.T) {
	// Nobody waits for a condition, somebody for others, or for a lock of its number.
	goes(t, 3, 5, "Lock 1 3, Lock 1 4, Lock 2 2, Wait 0 2 2, Lock 0 1, Wait 2 0 1",
		doing{"Signal 1", "-1 ok", "[-] [3 4] [-] | [2] [] [1]"},
		// Its first one's lock is free.
		doing{"Signal 0", "2 ok", "[-] [3 4] [2] | [] [] [1]"},
		doing{"Signal 0", "-1 ok", "[-] [3 4] [2] | [] [] [1]"},
		doing{"Signal 2", "1 ok", "[1] [3 4] [2] | [] [] []"},
	)
	// Its first one's lock is not: it waits for that, behind all that do.
	goes(t, 2, 5, "Lock 0 1, Wait 1 0 1, Lock 0 0, Wait 1 0 0, Lock 0 4, Lock 0 2",
		doing{"Signal 1", "-1 ok", "[4 2 1] [-] | [] [0]"},
		doing{"Lock 0 3", "false ok", "[4 2 1 3] [-] | [] [0]"},
		doing{"Signal 1", "-1 ok", "[4 2 1 3 0] [-] | [] []"},
		doing{"Signal 1", "-1 ok", "[4 2 1 3 0] [-] | [] []"},
		doing{"Unlock 0 4", "2 ok", "[2 1 3 0] [-] | [] []"},
		doing{"Unlock 0 2", "1 ok", "[1 3 0] [-] | [] []"},
	)
	// The first one goes, though the second one's lock is free.
	goes(t, 2, 3, "Lock 0 2, Wait 0 0 2, Lock 1 1, Wait 0 1 1, Lock 0 0",
		doing{"Signal 0", "-1 ok", "[0 2] [-] | [1] []"},
		doing{"Signal 0", "1 ok", "[0 2] [1] | [] []"},
	)
}

// P19.2: who waits for a condition again is to have the lock that it gave up last.
func TestSignalAfterAnotherLock(t *testing.T) {
	goes(t, 3, 3, "Lock 0 1, Lock 2 1, Wait 1 0 1",
		doing{"Signal 1", "1 ok", "[1] [-] [1] | [] [] []"},
		doing{"Wait 1 2 1", "-1 ok", "[1] [-] [-] | [] [1] []"},
		doing{"Lock 2 0", "true ok", "[1] [-] [0] | [] [1] []"},
		doing{"Signal 1", "-1 ok", "[1] [-] [0 1] | [] [] []"},
		doing{"Unlock 2 0", "1 ok", "[1] [-] [1] | [] [] []"},
	)
}

// P19.2
func TestCast(t *testing.T) {
	// Of none.
	goes(t, 2, 3, "Lock 1 1, Lock 1 2",
		doing{"Cast 1", "[] ok", "[-] [1 2] | [] []"},
		doing{"Cast 0", "[] ok", "[-] [1 2] | [] []"},
	)
	// Of one, whose lock is free, and whose lock is not; others stay.
	goes(t, 2, 3, "Lock 0 2, Wait 1 0 2, Lock 1 1, Wait 0 1 1",
		doing{"Cast 1", "[2] ok", "[2] [-] | [1] []"},
		doing{"Lock 1 0", "true ok", "[2] [0] | [1] []"},
		doing{"Cast 0", "[] ok", "[2] [0 1] | [] []"},
		doing{"Cast 0", "[] ok", "[2] [0 1] | [] []"},
	)
	// Of many that are to have one lock, which is free, and which is not.
	three := "Lock 0 3, Wait 0 0 3, Lock 0 1, Wait 0 0 1, Lock 0 2, Wait 0 0 2"
	goes(t, 1, 6, three,
		doing{"Cast 0", "[3] ok", "[3 1 2] | []"},
	)
	goes(t, 1, 6, three+", Lock 0 5, Lock 0 4",
		doing{"Cast 0", "[] ok", "[5 4 3 1 2] | []"},
	)
	// Of many that are to have unlike ones: each that is told comes in the order of
	// those that waited.
	unlike := "Lock 1 4, Wait 2 1 4, Lock 0 0, Wait 2 0 0, Lock 1 3, Wait 2 1 3, Lock 0 2, Wait 2 0 2, Lock 2 1, Wait 2 2 1"
	goes(t, 3, 6, unlike,
		doing{"Cast 2", "[4 0 1] ok", "[0 2] [4 3] [1] | [] [] []"},
	)
	goes(t, 3, 6, unlike+", Lock 0 5",
		doing{"Cast 2", "[4 1] ok", "[5 0 2] [4 3] [1] | [] [] []"},
	)
}

// P19.2
func TestSignalAndCastErrRange(t *testing.T) {
	for _, n := range append(odd(), 2, 3, 4) {
		refuses(t, 2, 4, "Lock 0 1, Wait 0 0 1, Lock 1 2, Wait 1 1 2",
			refused{an("Signal", n), "-1 range"},
			refused{an("Cast", n), "[] range"},
		)
	}
}

// P19.2
func TestDrop(t *testing.T) {
	begin := "Lock 0 1, Lock 2 1, Lock 1 2"
	rows := []struct {
		begin string
		row   []doing
	}{
		{"", []doing{
			// One that has no lock, and waits for none.
			{"Drop 5", "[]", "[1] [2] [1] | [] [] []"},
			{"Drop 0", "[]", "[1] [2] [1] | [] [] []"},
			// One, and several, for which nobody waits.
			{"Drop 2", "[]", "[1] [-] [1] | [] [] []"},
			{"Drop 1", "[]", "[-] [-] [-] | [] [] []"},
			{"Drop 1", "[]", "[-] [-] [-] | [] [] []"},
			{"Lock 2 1", "true ok", "[-] [-] [1] | [] [] []"},
		}},
		{"Lock 2 3, Lock 2 0, Lock 0 5, Lock 0 4", []doing{
			// By locks, not by threads.
			{"Drop 1", "[5 3]", "[5 4] [2] [3 0] | [] [] []"},
			{"Drop 2", "[]", "[5 4] [-] [3 0] | [] [] []"},
			{"Drop 3", "[0]", "[5 4] [-] [0] | [] [] []"},
		}},
		{"Lock 2 3, Lock 1 0, Lock 1 4, Lock 1 5", []doing{
			// One that waits: the first, one between, the last.
			{"Drop 0", "[]", "[1] [2 4 5] [1 3] | [] [] []"},
			{"Lock 1 0", "false ok", "[1] [2 4 5 0] [1 3] | [] [] []"},
			{"Drop 5", "[]", "[1] [2 4 0] [1 3] | [] [] []"},
			{"Drop 0", "[]", "[1] [2 4] [1 3] | [] [] []"},
			{"Unlock 1 2", "4 ok", "[1] [4] [1 3] | [] [] []"},
			{"Drop 3", "[]", "[1] [4] [1] | [] [] []"},
			{"Unlock 2 1", "-1 ok", "[1] [4] [-] | [] [] []"},
		}},
		{"Lock 1 1, Lock 2 3, Lock 0 2", []doing{
			// One that waits for a lock, and has others.
			{"Drop 1", "[2 3]", "[2] [2] [3] | [] [] []"},
			{"Lock 1 1", "false ok", "[2] [2 1] [3] | [] [] []"},
		}},
		{"Wait 1 0 1, Wait 1 1 2, Lock 0 3, Lock 0 4, Lock 2 5", []doing{
			// One that waits for a condition, and has another lock.
			{"Drop 1", "[5]", "[3 4] [-] [5] | [] [2] []"},
			{"Cast 1", "[2] ok", "[3 4] [2] [5] | [] [] []"},
			{"Lock 0 1", "false ok", "[3 4 1] [2] [5] | [] [] []"},
		}},
		{"Wait 1 0 1, Wait 1 1 2", []doing{
			// One that waits for a condition, and has nothing.
			{"Drop 2", "[]", "[-] [-] [1] | [] [1] []"},
			{"Lock 1 2", "true ok", "[-] [2] [1] | [] [1] []"},
			{"Signal 1", "1 ok", "[1] [2] [1] | [] [] []"},
			{"Signal 1", "-1 ok", "[1] [2] [1] | [] [] []"},
		}},
	}
	for _, r := range rows {
		goes(t, 3, 6, begin+","+r.begin, r.row...)
	}
}

// P19.2: all locks at once, each with one that waits, whose numbers fall.
func TestDropOfAllLocks(t *testing.T) {
	l := made(t, mostObjects, mostThreads)
	var want []int
	for o := range mostObjects {
		answers(t, l, an("Lock", o, 7), "true ok")
		answers(t, l, an("Lock", o, mostThreads-1-o), "false ok")
		want = append(want, mostThreads-1-o)
	}
	if got := l.Drop(7); !slices.Equal(got, want) {
		t.Errorf("Drop(7): %v, want %v", got, want)
	}
	for o := range mostObjects {
		if got := l.Owner(o); got != mostThreads-1-o {
			t.Errorf("Owner(%d): %d", o, got)
		}
	}
}

// P19.2
func TestDropOfNoThread(t *testing.T) {
	for _, n := range append(odd(), 6) {
		refuses(t, 3, 6, "Lock 0 5, Lock 1 0, Lock 0 0, Lock 2 3, Wait 2 2 3", refused{an("Drop", n), "[]"})
	}
}

// P19.3: holds asks of all that there is and isn't; here what is told stands out.
func TestAsk(t *testing.T) {
	l := begun(t, 3, 5, "Lock 0 3, Lock 1 3, Lock 1 4, Lock 1 1, Lock 2 0, Wait 1 2 0, Lock 2 2, Wait 1 2 2")
	for _, c := range []struct{ number, owner int }{
		{0, 3}, {1, 3}, {2, -1}, {3, -1}, {-1, -1}, {5, -1}, {lowest, -1}, {highest, -1},
	} {
		if got := l.Owner(c.number); got != c.owner {
			t.Errorf("Owner(%d): %d, want %d", c.number, got, c.owner)
		}
	}
	for _, c := range []struct {
		number            int
		waiters, sleepers []int
	}{
		{0, nil, nil}, {1, []int{4, 1}, []int{0, 2}}, {2, nil, nil},
		{-2, nil, nil}, {-1, nil, nil}, {3, nil, nil}, {4, nil, nil}, {lowest, nil, nil}, {highest, nil, nil},
	} {
		if got := l.Waiters(c.number); !slices.Equal(got, c.waiters) {
			t.Errorf("Waiters(%d): %v, want %v", c.number, got, c.waiters)
		}
		if got := l.Sleepers(c.number); !slices.Equal(got, c.sleepers) {
			t.Errorf("Sleepers(%d): %v, want %v", c.number, got, c.sleepers)
		}
	}
	for _, c := range []struct{ thread, kind, number int }{
		{0, 2, 1}, {1, 1, 1}, {2, 2, 1}, {3, 0, -1}, {4, 1, 1},
		{5, 0, -1}, {6, 0, -1}, {-1, 0, -1}, {lowest, 0, -1}, {highest, 0, -1},
	} {
		for range 2 {
			if kind, number := l.Where(c.thread); kind != c.kind || number != c.number {
				t.Errorf("Where(%d): %d, %d, want %d, %d", c.thread, kind, number, c.kind, c.number)
			}
		}
	}
}

// spoil overwrites a list, and the spare room behind its end.
func spoil(l []int) {
	for i := range l[:cap(l)] {
		l[:cap(l)][i] = 77
	}
}

// R3
func TestAnswersAreNewMemory(t *testing.T) {
	l := begun(t, 2, 6, "Lock 0 1, Wait 1 0 1, Lock 1 0, Wait 1 1 0, Lock 0 2, Lock 0 3, Lock 0 4, Lock 1 2, Lock 1 5")
	want := "[2 3 4] [2 5] | [] [1 0]"
	for range 2 {
		spoil(l.Waiters(0))
		spoil(l.Waiters(1))
		spoil(l.Sleepers(0))
		spoil(l.Sleepers(1))
		holds(t, l, 6, want)
	}
	spoil(l.Drop(2))
	holds(t, l, 6, "[3 4] [5] | [] [1 0]")
	answers(t, l, an("Unlock", 1, 5), "-1 ok")
	answers(t, l, an("Drop", 4), "[]")
	answers(t, l, an("Unlock", 0, 3), "-1 ok")
	cast, err := l.Cast(1)
	if !slices.Equal(cast, []int{1, 0}) || err != api.OK {
		t.Errorf("Cast(1): %v, %v", cast, err)
	}
	spoil(cast)
	holds(t, l, 6, "[1] [0] | [] []")
}

// R3: what was told stays as it is, whatever is done then.
func TestAnswersStay(t *testing.T) {
	l := begun(t, 2, 6, "Lock 0 1, Wait 1 0 1, Lock 1 0, Wait 1 1 0, Lock 0 2, Lock 0 3, Lock 0 4")
	waiters, sleepers := l.Waiters(0), l.Sleepers(1)
	for _, a := range acts(t, "Drop 2, Cast 1, Lock 0 5, Wait 1 0 3, Drop 4, Drop 1, Wait 1 0 5") {
		does(l, a)
	}
	if !slices.Equal(waiters, []int{3, 4}) || !slices.Equal(sleepers, []int{1, 0}) {
		t.Errorf("now %v and %v", waiters, sleepers)
	}
}

// copied is l's Copy, which may not be nil here.
func copied(t *testing.T, l *lock.Locks) *lock.Locks {
	t.Helper()
	other := l.Copy()
	if other == nil {
		t.Fatal("Copy: nil")
	}
	return other
}

// A copy knows all that what it was copied from does.
func TestCopy(t *testing.T) {
	for _, begin := range []string{
		"", "Lock 0 1", "Lock 0 1, Lock 0 3, Lock 0 2", "Lock 1 1, Wait 0 1 1",
		"Lock 0 1, Wait 2 0 1, Lock 1 3, Wait 2 1 3, Lock 0 2, Lock 2 4, Lock 0 4",
	} {
		l := begun(t, 3, 5, begin)
		other := copied(t, l)
		want := told(l, 3)
		holds(t, other, 5, want)
		holds(t, l, 5, want)
		answers(t, other, an("Lock", 3, 0), "false range")
		answers(t, other, an("Lock", 0, 5), "false range")
		answers(t, other, an("Cast", 3), "[] range")
		holds(t, copied(t, other), 5, want)
	}
	// Which lock one is to have again, too.
	other := copied(t, begun(t, 3, 3, "Lock 2 1, Wait 0 2 1"))
	answers(t, other, an("Signal", 0), "1 ok")
	holds(t, other, 3, "[-] [-] [1] | [] [] []")
}

// What is done to one of both is not done to the other.
func TestCopyGoesItsOwnWay(t *testing.T) {
	begin := "Lock 0 1, Lock 0 2, Lock 0 0, Lock 1 3, Wait 2 1 3, Lock 1 5, Wait 2 1 5"
	before := "[1 2 0] [-] [-] | [] [] [3 5]"
	for _, d := range []doing{
		{"Lock 1 4", "true ok", "[1 2 0] [4] [-] | [] [] [3 5]"},
		{"Lock 0 4", "false ok", "[1 2 0 4] [-] [-] | [] [] [3 5]"},
		{"Unlock 0 1", "2 ok", "[2 0] [-] [-] | [] [] [3 5]"},
		{"Wait 2 0 1", "2 ok", "[2 0] [-] [-] | [] [] [3 5 1]"},
		{"Signal 2", "3 ok", "[1 2 0] [3] [-] | [] [] [5]"},
		{"Cast 2", "[3] ok", "[1 2 0] [3 5] [-] | [] [] []"},
		{"Drop 1", "[2]", "[2 0] [-] [-] | [] [] [3 5]"},
		{"Drop 5", "[]", "[1 2 0] [-] [-] | [] [] [3]"},
	} {
		l := begun(t, 3, 6, begin)
		other := copied(t, l)
		a := acts(t, d.act)[0]
		answers(t, other, a, d.answer)
		holds(t, other, 6, d.told)
		holds(t, l, 6, before)
		third := copied(t, other)
		answers(t, l, a, d.answer)
		holds(t, l, 6, d.told)
		holds(t, other, 6, d.told)
		answers(t, third, an("Drop", 0), "[]")
		holds(t, l, 6, d.told)
		holds(t, other, 6, d.told)
	}
}

// Which lock one is to have again goes its own way, too.
func TestCopyOfWhatIsToBeHad(t *testing.T) {
	l := begun(t, 3, 3, "Lock 0 1, Lock 2 1, Wait 1 0 1")
	other := copied(t, l)
	for _, a := range acts(t, "Signal 1, Wait 1 2 1") {
		does(l, a)
	}
	holds(t, l, 3, "[1] [-] [-] | [] [1] []")
	answers(t, other, an("Signal", 1), "1 ok")
	holds(t, other, 3, "[1] [-] [1] | [] [] []")
	answers(t, l, an("Signal", 1), "1 ok")
	holds(t, l, 3, "[1] [-] [1] | [] [] []")
}

// P1, R5: of Locks that no call made.
func TestOfNoneMade(t *testing.T) {
	numbers := append(odd(), 0, 1, 2, 63, 64, 1023)
	for _, l := range []*lock.Locks{nil, {}, lock.New(0, 1), lock.New(1, 0), lock.New(65, 1), new(lock.Locks)} {
		for _, a := range numbers {
			for _, b := range numbers {
				answers(t, l, an("Lock", a, b), "false made")
				answers(t, l, an("Unlock", a, b), "-1 made")
				answers(t, l, an("Wait", a, b, a), "-1 made")
				answers(t, l, an("Wait", a, a, b), "-1 made")
			}
			answers(t, l, an("Signal", a), "-1 made")
			answers(t, l, an("Cast", a), "[] made")
			answers(t, l, an("Drop", a), "[]")
			if l.Owner(a) != -1 || len(l.Waiters(a)) > 0 || len(l.Sleepers(a)) > 0 {
				t.Errorf("of %d: %d, %v, %v", a, l.Owner(a), l.Waiters(a), l.Sleepers(a))
			}
			if kind, number := l.Where(a); kind != 0 || number != -1 {
				t.Errorf("Where(%d): %d, %d, want 0, -1", a, kind, number)
			}
		}
		if l.Copy() != nil {
			t.Errorf("Copy: not nil")
		}
	}
}
