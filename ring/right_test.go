package ring

import (
	"math/rand"
	"slices"
	"testing"

	"wherry/api"
)

// The tests of this file drive Rings by drawn calls, the same ones each time,
// and hold each answer against a plain list; a call that panicked there would
// fail them too (P1).

// model is a queue as a plain list.
type model struct {
	l     []int
	bound int
}

func (m *model) push(x int) api.Errno {
	if len(m.l) == m.bound {
		return api.ErrFull
	}
	m.l = append(m.l, x)
	return api.OK
}

func (m *model) front(x int) api.Errno {
	if len(m.l) == m.bound {
		return api.ErrFull
	}
	m.l = slices.Insert(m.l, 0, x)
	return api.OK
}

func (m *model) at(i int) (int, bool) {
	if i < 0 || i >= len(m.l) {
		return 0, false
	}
	return m.l[i], true
}

func (m *model) take(i int) (int, bool) {
	x, ok := m.at(i)
	if ok {
		m.l = slices.Delete(m.l, i, i+1)
	}
	return x, ok
}

func (m *model) remove(x int) bool {
	_, ok := m.take(slices.Index(m.l, x))
	return ok
}

// answer is what a call told: a number, an error or a bool, or two of them.
type answer struct {
	number int
	truth  bool
}

func answered(number int, truth bool) answer {
	return answer{number, truth}
}

// step does the drawn call to both, and tells what each answered.
func step(source *rand.Rand, r *Ring, m *model) (string, answer, answer) {
	x := source.Intn(6)
	switch source.Intn(8) {
	case 0, 1:
		return "Push", answered(int(r.Push(x)), true), answered(int(m.push(x)), true)
	case 2:
		return "Front", answered(int(r.Front(x)), true), answered(int(m.front(x)), true)
	case 3:
		return "Pop", answered(r.Pop()), answered(m.take(0))
	case 4:
		return "Back", answered(r.Back()), answered(m.take(len(m.l) - 1))
	case 5:
		return "Remove", answered(0, r.Remove(x)), answered(0, m.remove(x))
	case 6:
		return "Find", answered(r.Find(x), true), answered(slices.Index(m.l, x), true)
	default:
		i := source.Intn(m.bound+3) - 1
		return "At", answered(r.At(i)), answered(m.at(i))
	}
}

// P3.1, P3.2
func TestDrawnCalls(t *testing.T) {
	source := rand.New(rand.NewSource(3))
	for _, bound := range []int{1, 2, 3, 4, 5, 7, 8, 16} {
		r, m := New(bound), &model{bound: bound}
		all := r.All()
		for range 6000 {
			name, got, want := step(source, r, m)
			if got != want {
				t.Fatalf("%s of %v with room for %d: %v, want %v", name, m.l, bound, got, want)
			}
			if l := slices.Collect(all); !slices.Equal(l, m.l) {
				t.Fatalf("behind %s: %v, want %v", name, l, m.l)
			}
			if r.Len() != len(m.l) || r.Room() != bound-len(m.l) || r.Len() > bound {
				t.Fatalf("behind %s: Len %d, Room %d of %v", name, r.Len(), r.Room(), m.l)
			}
		}
	}
}

// P3.1, P3.2: copies of copies, each with a list of its own.
func TestDrawnCopies(t *testing.T) {
	source := rand.New(rand.NewSource(33))
	rings := make([]*Ring, 6)
	models := make([]*model, 6)
	for i := range rings {
		rings[i], models[i] = New(i+1), &model{bound: i + 1}
	}
	for range 20000 {
		i, j := source.Intn(len(rings)), source.Intn(len(rings))
		if source.Intn(8) == 0 {
			rings[i] = rings[j].Copy()
			models[i] = &model{slices.Clone(models[j].l), models[j].bound}
		}
		name, got, want := step(source, rings[i], models[i])
		if got != want {
			t.Fatalf("%s of %v: %v, want %v", name, models[i].l, got, want)
		}
		for k, r := range rings {
			if l := slices.Collect(r.All()); !slices.Equal(l, models[k].l) {
				t.Fatalf("%s of another one: %v, want %v", name, l, models[k].l)
			}
		}
		// Fresh ones, now and then, or the copies would all be of one bound.
		if source.Intn(50) == 0 {
			bound := source.Intn(6) + 1
			rings[j], models[j] = New(bound), &model{bound: bound}
		}
	}
}

// P3.2: what was pushed comes in the same order, of the greatest one too.
func TestGreatestKeepsOrder(t *testing.T) {
	r := New(greatest)
	for turn := range 3 {
		for i := range greatest {
			if err := r.Push(i * i); err != api.OK {
				t.Fatalf("Push of %d in turn %d: %v", i, turn, err)
			}
		}
		if r.Push(0) != api.ErrFull || r.Len() != greatest {
			t.Fatal("the bound was passed")
		}
		for i := range greatest {
			if x, ok := r.Pop(); x != i*i || !ok {
				t.Fatalf("Pop of %d in turn %d: %d, %v", i, turn, x, ok)
			}
		}
		r.Push(1)
		r.Pop()
	}
}
