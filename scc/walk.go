package scc

import (
	"iter"
	"slices"

	"yardarm/api"
	"yardarm/graph"
)

// Where a node stands that is not open: it was not met yet, or its component was told. The latter is behind all places.
const (
	unmet = -1
	told  = api.MaxNodes
)

// walk is a graph that is gone through: the nodes that are open, which were met and whose component was not told yet, as they were met; and at which place there each node stands.
type walk struct {
	edges  []api.Edge
	starts []int
	open   []int
	places []int
}

// frame is an open node that is gone through: its place, the least place that it has come to, and the edges that it has not gone along yet.
type frame struct {
	place, least int
	left         []api.Edge
}

// begun tells a walk of g that has met no node; starts are those of g.
func begun(g api.Graph, starts []int) *walk {
	w := &walk{edges: g.Edges, starts: starts, places: make([]int, g.Nodes)}
	for v := range w.places {
		w.places[v] = unmet
	}
	return w
}

// opened meets v, and tells its frame.
func (w *walk) opened(v int) frame {
	place := len(w.open)
	w.open = append(w.open, v)
	w.places[v] = place
	start, end := w.starts[v], w.starts[v+1]
	return frame{place: place, least: place, left: w.edges[start:end:end]}
}

// closed takes away all open nodes from a place on, and tells them: a component. They stand there till the next node is met.
func (w *walk) closed(place int) []int {
	end := len(w.open)
	part := w.open[place:end:end]
	for _, v := range part {
		w.places[v] = told
	}
	w.open = w.open[:place]
	return part
}

// through goes through v, and all unmet nodes that it leads to, and tells their components, while tell says true; whether it did.
func (w *walk) through(v int, tell func(part []int) bool) bool {
	row := []frame{w.opened(v)}
frames:
	for len(row) > 0 {
		last := len(row) - 1
		top := row[last]
		for len(top.left) > 0 {
			to, end := top.left[0].To, len(top.left)
			top.left = top.left[1:end:end]
			if w.places[to] == unmet {
				row[last] = top
				row = append(row, w.opened(to))
				continue frames
			}
			top.least = min(top.least, w.places[to])
		}
		row = row[:last]
		if last > 0 {
			row[last-1].least = min(row[last-1].least, top.least)
		}
		// Who has come to no place ahead of the own one is the first one that was met of its component.
		if top.least == top.place && !tell(w.closed(top.place)) {
			return false
		}
	}
	return true
}

// components tells the components of g, in any order, and the nodes of each; a part holds only till the next one is told.
func components(g api.Graph) (iter.Seq[[]int], api.Errno) {
	starts, err := graph.Starts(g)
	if err != api.OK {
		return nil, err
	}
	return func(yield func(part []int) bool) {
		w := begun(g, starts)
		for v := range g.Nodes {
			if w.places[v] == unmet && !w.through(v, yield) {
				return
			}
		}
	}, api.OK
}

// round tells whether the nodes of a component lead to themselves: no edge leads from a node to itself, so it takes two.
func round(part []int) bool {
	return len(part) > 1
}

// numbers tells of each node of g the number of its component, and how many components there are.
func numbers(g api.Graph) ([]int, int, api.Errno) {
	parts, err := components(g)
	if err != api.OK {
		return nil, 0, err
	}
	first := make([]int, g.Nodes)
	for part := range parts {
		least := slices.Min(part)
		for _, v := range part {
			first[v] = least
		}
	}
	of, many := make([]int, g.Nodes), 0
	for v := range g.Nodes {
		if first[v] < v {
			of[v] = of[first[v]]
			continue
		}
		of[v] = many
		many++
	}
	return of, many, api.OK
}

// copied tells the nodes of a component anew.
func copied(part []int) []int {
	set := make([]int, len(part))
	copy(set, part)
	return set
}
