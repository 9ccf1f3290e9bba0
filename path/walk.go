package path

import (
	"iter"
	"slices"

	"yardarm/api"
	"yardarm/graph"
	"yardarm/scc"
)

// walk is a graph that may be, to be gone through: its edges, and where those From each node start.
type walk struct {
	edges  []api.Edge
	starts []int
}

// begun tells a walk of g, if it may be, and has all of the nodes.
func begun(g api.Graph, nodes ...int) (walk, api.Errno) {
	starts, err := graph.Starts(g)
	if err != api.OK {
		return walk{}, err
	}
	for _, v := range nodes {
		if v < 0 || v >= g.Nodes {
			return walk{}, api.ErrArg
		}
	}
	return walk{edges: g.Edges, starts: starts}, api.OK
}

// within tells a walk of what cycles can go along: the edges of g both of whose ends are together.
func within(g api.Graph, nodes ...int) (walk, api.Errno) {
	inner, err := scc.Inner(g)
	if err != api.OK {
		return walk{}, err
	}
	return begun(inner, nodes...)
}

// out cuts out the edges From v.
func (w walk) out(v int) []api.Edge {
	start, end := w.starts[v], w.starts[v+1]
	return w.edges[start:end:end]
}

// leads tells whether an edge leads from the one node to the other one.
func (w walk) leads(from, to int) bool {
	_, is := slices.BinarySearchFunc(w.out(from), to, func(e api.Edge, to int) int { return e.To - to })
	return is
}

// follow tells whether an edge leads from each of the nodes to the next one.
func (w walk) follow(nodes []int) bool {
	for at := 1; at < len(nodes); at++ {
		if !w.leads(nodes[at-1], nodes[at]) {
			return false
		}
	}
	return true
}

// anywhere says that v may be gone over, whichever it is.
func anywhere(v int) bool {
	return true
}

// ways tells, wave by wave, all nodes that from leads to over those that may be gone over, by ways of so many nodes at most; and of each the least of its shortest ways. Within a wave the lesser way is ahead.
func (w walk) ways(from, most int, may func(v int) bool) iter.Seq2[int, []int] {
	return func(yield func(v int, way []int) bool) {
		met := map[int][]int{from: {from}}
		wave := []int{from}
	search:
		for len(wave) > 0 {
			var next []int
			for _, v := range wave {
				way := met[v]
				if !yield(v, way) {
					break search
				}
				if len(way) < most {
					next = append(next, w.onward(way, met, may)...)
				}
			}
			wave = next
		}
	}
}

// onward meets the nodes that come next behind the end of a way, that may be gone over, and were not met yet; it tells them, rising.
func (w walk) onward(way []int, met map[int][]int, may func(v int) bool) []int {
	end := len(way)
	var next []int
	for _, e := range w.out(way[end-1]) {
		if _, old := met[e.To]; old || !may(e.To) {
			continue
		}
		// The way has no room behind its end, so that each longer one is put into room of its own.
		met[e.To] = append(way[:end:end], e.To)
		next = append(next, e.To)
	}
	return next
}

// back tells the least of all shortest cycles that have v, else only nodes that may be gone over, and so many at most; written from v on. Nil, if there is none.
func (w walk) back(v, most int, may func(v int) bool) []int {
	return first(w.ways(v, most, may), func(last int) bool { return w.leads(last, v) })
}

// first tells the first way to a node that ask says true of; nil, if there is none.
func first(ways iter.Seq2[int, []int], ask func(v int) bool) []int {
	for v, way := range ways {
		if ask(v) {
			return way
		}
	}
	return nil
}

// shorter tells the shortest of those rows that have something, of several the first; nil, if none has.
func shorter(rows ...[]int) []int {
	var best []int
	for _, row := range rows {
		if len(best) == 0 || 0 < len(row) && len(row) < len(best) {
			best = row
		}
	}
	return best
}

// some tells a row that was looked for, and ErrNone if it has nothing.
func some(row []int) ([]int, api.Errno) {
	if len(row) == 0 {
		return nil, api.ErrNone
	}
	return row, api.OK
}
