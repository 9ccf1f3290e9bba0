package topo

// heap is nodes of which none is less than the one above it: the one at the place 0 is above those at 1 and 2, that at 1 above 3 and 4, and so on. So the least one stands first.
type heap struct {
	row []int
}

// ready tells how nodes are put into a heap that has none yet, and how the least one is taken out of it, if it has any.
func ready() (put func(v int), take func() (int, bool)) {
	h := &heap{}
	return h.put, h.take
}

// above tells the place above at, which is not 0.
func above(at int) int {
	return (at - 1) / 2
}

// put puts v in: it rises past all that are greater.
func (h *heap) put(v int) {
	h.row = append(h.row, v)
	at := len(h.row) - 1
	for at > 0 && v < h.row[above(at)] {
		h.row[at] = h.row[above(at)]
		at = above(at)
	}
	h.row[at] = v
}

// take takes the least one out, if there is any; the last one goes to its place, and sinks.
func (h *heap) take() (int, bool) {
	if len(h.row) == 0 {
		return 0, false
	}
	least, last := h.row[0], len(h.row)-1
	h.row[0] = h.row[last]
	h.row = h.row[:last]
	h.sink()
	return least, true
}

// sink lets the first one sink past all that are less.
func (h *heap) sink() {
	at := 0
	for least := h.least(at); least != at; least = h.least(at) {
		h.row[at], h.row[least] = h.row[least], h.row[at]
		at = least
	}
}

// least tells which place has the least node: at, or one of the two below it.
func (h *heap) least(at int) int {
	least := at
	for below := 2*at + 1; below <= 2*at+2 && below < len(h.row); below++ {
		if h.row[below] < h.row[least] {
			least = below
		}
	}
	return least
}
