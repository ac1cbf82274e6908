package wheel

import "iter"

const (
	levels = 4  // parts of a time
	width  = 16 // rows of a level: width to the power of levels is above longest
)

// parts are those of a time, the least first.
type parts [levels]int

// cut tells the parts of a time. The last one is all that is left, so that two
// times are the same if their parts are.
func cut(time int) parts {
	var p parts
	for level := range levels - 1 {
		p[level] = time % width
		time /= width
	}
	p[levels-1] = time
	return p
}

// row tells the list of the row for those that wait until then: of the greatest
// part that is not as it is now, that part's. Its turn comes when that part of the
// time is as it is then. Of the last part the rows are gone round: nobody waits so
// long that a turn too early would come.
func (w *Wheel) row(then int) int {
	now, until := cut(w.now), cut(then)
	level := levels - 1
	for level > 0 && until[level] == now[level] {
		level--
	}
	return w.rows[level][until[level]%width]
}

// put makes an id that stands in no row stand in the one for its time.
func (w *Wheel) put(id int) {
	w.lists.Push(w.row(w.until[id]), id)
}

// turn lets each row whose turn comes now go down: its ids wait for another part
// of their time, or it is their time.
func (w *Wheel) turn() {
	now := cut(w.now)
	for level := 1; level < levels && now[level-1] == 0; level++ {
		for _, id := range w.empty(w.rows[level][now[level]%width]) {
			w.put(id)
		}
	}
}

// members tells the ids that stand in a row.
func (w *Wheel) members(list int) []int {
	var ids []int
	for id := range w.lists.All(list) {
		ids = append(ids, id)
	}
	return ids
}

// empty takes all ids out of a row, and tells them.
func (w *Wheel) empty(list int) []int {
	ids := w.members(list)
	for _, id := range ids {
		w.lists.Remove(id)
	}
	return ids
}

// inTurn tells the rows' lists in the order in which their turns come. Those of a
// level come ahead of those of the next one, since what stands there differs from
// now in a greater part.
func (w *Wheel) inTurn() iter.Seq[int] {
	now := cut(w.now)
	return func(yield func(int) bool) {
		for level, lists := range w.rows {
			for step := range width {
				// The row of now's own part has had its turn: the next is a round later.
				if !yield(lists[(now[level]+1+step)%width]) {
					return
				}
			}
		}
	}
}
