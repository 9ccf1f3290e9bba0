package topo

import (
	"iter"
	"slices"

	"yardarm/api"
	"yardarm/graph"
)

// leaving tells, of a graph that may be, how to go through the edges From a node.
func leaving(g api.Graph) (func(v int) iter.Seq[api.Edge], api.Errno) {
	starts, err := graph.Starts(g)
	if err != api.OK {
		return nil, err
	}
	return func(v int) iter.Seq[api.Edge] {
		return slices.Values(g.Edges[starts[v]:starts[v+1]])
	}, api.OK
}

// taken tells the nodes of g that can be taken, one by one: of those to which no edge leads from one that is not taken, the least.
func taken(g api.Graph) (iter.Seq[int], api.Errno) {
	out, err := leaving(g)
	if err != api.OK {
		return nil, err
	}
	return func(yield func(v int) bool) {
		put, take := ready()
		waits := make([]int, g.Nodes)
		for v := range g.Nodes {
			for e := range out(v) {
				waits[e.To]++
			}
		}
		for v := range g.Nodes {
			if waits[v] == 0 {
				put(v)
			}
		}
		for v, some := take(); some && yield(v); v, some = take() {
			for e := range out(v) {
				waits[e.To]--
				if waits[e.To] == 0 {
					put(e.To)
				}
			}
		}
	}, api.OK
}
