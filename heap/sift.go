package heap

// over tells the place over a place that is not the first.
func over(at int) int {
	return (at - 1) / 2
}

// ahead tells whether the thing at place i comes ahead of the one at place j.
func (h *Heap) ahead(i, j int) bool {
	return h.heap[i].before(h.heap[j])
}

// under tells the place under a place whose thing comes ahead of the other's
// there; at itself, if there is none under it.
func (h *Heap) under(at int, ahead func(i, j int) bool) int {
	left, right := 2*at+1, 2*at+2
	switch {
	case left >= len(h.heap):
		return at
	case right < len(h.heap) && ahead(right, left):
		return right
	}
	return left
}

// sift lets the thing at a place go up or down, till it stands right; all others
// do already. It goes one way alone, since what it has passed stays on the right
// side of it.
func (h *Heap) sift(at int) {
	ahead := h.ahead
sifting:
	for {
		to := h.under(at, ahead)
		switch {
		case at > 0 && ahead(at, over(at)):
			to = over(at)
		case !ahead(to, at):
			break sifting
		}
		h.swap(at, to)
		at = to
	}
}

// swap lets the things at two places change their places.
func (h *Heap) swap(i, j int) {
	h.heap[i], h.heap[j] = h.heap[j], h.heap[i]
	h.place[h.heap[i].id] = i
	h.place[h.heap[j].id] = j
}

// take takes the thing at a place out of the heap.
func (h *Heap) take(at int) {
	last := len(h.heap) - 1
	h.swap(at, last)
	h.place[h.heap[last].id] = none
	h.heap = h.heap[:last]
	// The one that was the last stands there now, unless it was taken itself.
	if at < last {
		h.sift(at)
	}
}
