package graph

import (
	"iter"

	"yardarm/api"
	"yardarm/order"
)

// may tells whether a graph may have so many nodes.
func may(nodes int) bool {
	return 0 <= nodes && nodes <= api.MaxNodes
}

// node tells whether v is one of so many nodes.
func node(v, nodes int) bool {
	return 0 <= v && v < nodes
}

// between tells whether all of l lead from one of so many nodes to another one, and are of kinds.
func between(nodes int, l []api.Edge) bool {
	for _, e := range l {
		if !node(e.From, nodes) || !node(e.To, nodes) || e.From == e.To || e.Kind < 0 || e.Kind > api.MaxKind {
			return false
		}
	}
	return true
}

// asked tells the error of a call that asks g of nodes, if there is one.
func asked(g api.Graph, nodes ...int) api.Errno {
	if err := Check(g); err != api.OK {
		return err
	}
	for _, v := range nodes {
		if !node(v, g.Nodes) {
			return api.ErrArg
		}
	}
	return api.OK
}

// place tells the number by which e stands in order, if it is an edge that a graph may have; of those no two have the same one.
func place(e api.Edge) int {
	return (e.From*api.MaxNodes+e.To)*(api.MaxKind+1) + e.Kind
}

// sorted tells the edges of l, in order, each once.
func sorted(l []api.Edge) []api.Edge {
	return order.Unique(order.Sort(l, func(a, b api.Edge) int { return place(a) - place(b) }))
}

// start tells how many of l, which is in order, are From nodes below v.
func start(l []api.Edge, v int) int {
	n, _ := order.Find(l, func(e api.Edge) int { return e.From - v })
	return n
}

// leaving cuts out of l, which is in order, the edges From v.
func leaving(l []api.Edge, v int) []api.Edge {
	at, end := start(l, v), start(l, v+1)
	return l[at:end:end]
}

// copied tells l anew.
func copied(l []api.Edge) []api.Edge {
	row := make([]api.Edge, len(l))
	copy(row, l)
	return row
}

// those tells the edges of l that ask says true of, in order.
func those(l []api.Edge, ask func(e api.Edge) bool) iter.Seq[api.Edge] {
	return func(yield func(e api.Edge) bool) {
		for _, e := range l {
			if ask(e) && !yield(e) {
				return
			}
		}
	}
}

// gathered goes through all edges that are told, and tells what is made of each, in order.
func gathered[T any](edges iter.Seq[api.Edge], turn func(e api.Edge) T) []T {
	var row []T
	for e := range edges {
		row = append(row, turn(e))
	}
	return row
}
