package graph_test

import (
	"cmp"
	"math"
	"math/rand"
	"slices"
	"testing"

	"yardarm/api"
	"yardarm/graph"
)

// e tells an edge.
func e(from, to, kind int) api.Edge {
	return api.Edge{From: from, To: to, Kind: kind}
}

// compare holds edges against each other by From, then To, then Kind.
func compare(a, b api.Edge) int {
	return cmp.Or(cmp.Compare(a.From, b.From), cmp.Compare(a.To, b.To), cmp.Compare(a.Kind, b.Kind))
}

// made tells the graph of the edges, which may stand in any order, and more than once.
func made(nodes int, l ...api.Edge) api.Graph {
	l = slices.Clone(l)
	slices.SortFunc(l, compare)
	return api.Graph{Nodes: nodes, Edges: slices.Compact(l)}
}

// every tells all edges between so many nodes, of these kinds, in order.
func every(nodes int, kinds ...int) []api.Edge {
	var l []api.Edge
	for from := range nodes {
		for to := range nodes {
			for _, kind := range kinds {
				if from != to {
					l = append(l, e(from, to, kind))
				}
			}
		}
	}
	return l
}

// small tells all graphs of at most 3 nodes, with edges of the least and of the greatest kind.
func small() []api.Graph {
	all := []api.Graph{{}, {Nodes: 1}}
	for nodes := 2; nodes <= 3; nodes++ {
		l := every(nodes, 0, api.MaxKind)
		for picked := range 1 << len(l) {
			g := api.Graph{Nodes: nodes}
			for at, edge := range l {
				if picked>>at&1 == 1 {
					g.Edges = append(g.Edges, edge)
				}
			}
			all = append(all, g)
		}
	}
	return all
}

// anyEdges tells so many edges between so many nodes, two at least, in any order, some of them perhaps more than once.
func anyEdges(r *rand.Rand, nodes, many int) []api.Edge {
	l := make([]api.Edge, many)
	for i := range l {
		from, step := r.Intn(nodes), 1+r.Intn(nodes-1)
		l[i] = e(from, (from+step)%nodes, r.Intn(api.MaxKind+1))
	}
	return l
}

// large tells graphs of more nodes, with few edges and with many, one of them with as many of both as there may be.
func large(many int) []api.Graph {
	r := rand.New(rand.NewSource(5))
	all := []api.Graph{
		{Nodes: api.MaxNodes},
		{Nodes: api.MaxNodes, Edges: every(api.MaxNodes, 0, 9)[:api.MaxEdges]},
	}
	for range many {
		nodes := 2 + r.Intn(api.MaxNodes-1)
		all = append(all, made(nodes, anyEdges(r, nodes, r.Intn(600))...))
	}
	return all
}

// outside are numbers that are no node of any graph.
var outside = []int{math.MinInt, math.MinInt + 1, -300, -2, -1, api.MaxNodes, api.MaxNodes + 1, 1 << 32, math.MaxInt - 1, math.MaxInt}

// noEdges tells what is no edge between so many nodes.
func noEdges(nodes int) []api.Edge {
	l := []api.Edge{e(0, 0, 0), e(nodes-1, nodes-1, 3), e(0, nodes, 0), e(nodes, 0, 0), e(nodes, nodes+1, 0),
		e(0, 1, -1), e(0, 1, api.MaxKind+1), e(1, 0, math.MinInt), e(1, 0, math.MaxInt), e(-1, -1, -1), {}}
	for _, n := range outside {
		l = append(l, e(n, 0, 0), e(0, n, 0), e(n, n, 0), e(n, n-1, 9))
	}
	return l
}

// wrong tells graphs that may not be: by their nodes, by an edge, by the order, by how many edges there are.
func wrong() []api.Graph {
	all := []api.Graph{
		{Nodes: 3, Edges: []api.Edge{e(0, 1, 0), e(0, 1, 0)}},
		{Nodes: 3, Edges: []api.Edge{e(0, 1, 1), e(0, 1, 0)}},
		{Nodes: 3, Edges: []api.Edge{e(0, 2, 0), e(0, 1, 9)}},
		{Nodes: 3, Edges: []api.Edge{e(1, 0, 0), e(0, 2, 9)}},
		{Nodes: 3, Edges: []api.Edge{e(0, 1, 0), e(1, 2, 0), e(2, 0, 0), e(0, 1, 0)}},
		{Nodes: 3, Edges: []api.Edge{e(0, 1, 0), e(1, 2, 0), e(2, 1, 0), e(2, 0, 0)}},
		{Nodes: api.MaxNodes, Edges: every(api.MaxNodes, 0, 9)[:api.MaxEdges+1]},
		{Nodes: 0, Edges: []api.Edge{e(0, 1, 0)}},
		{Nodes: 1, Edges: []api.Edge{e(0, 1, 0)}},
		{Nodes: 1, Edges: []api.Edge{e(0, 0, 0)}},
		{Nodes: -1, Edges: []api.Edge{e(0, 1, 0)}},
	}
	for _, n := range outside {
		if n != api.MaxNodes {
			all = append(all, api.Graph{Nodes: n})
		}
	}
	for _, edge := range noEdges(3) {
		l := []api.Edge{edge, e(0, 2, 0), e(2, 1, 9)}
		slices.SortFunc(l, compare)
		all = append(all, api.Graph{Nodes: 3, Edges: []api.Edge{edge}}, api.Graph{Nodes: 3, Edges: l})
	}
	return all
}

// picked tells the edges of l that ask says true of.
func picked(l []api.Edge, ask func(edge api.Edge) bool) []api.Edge {
	return slices.DeleteFunc(slices.Clone(l), func(edge api.Edge) bool { return !ask(edge) })
}

// turned tells of each edge of l the one that leads back, in order.
func turned(l []api.Edge) []api.Edge {
	back := make([]api.Edge, len(l))
	for i, x := range l {
		back[i] = e(x.To, x.From, x.Kind)
	}
	slices.SortFunc(back, compare)
	return back
}

// checkGraph checks that the graph got may be, and has these nodes and these edges.
func checkGraph(t *testing.T, call string, got api.Graph, err api.Errno, nodes int, l []api.Edge) {
	t.Helper()
	if err != api.OK || got.Nodes != nodes || !slices.Equal(got.Edges, l) {
		t.Errorf("%s is %d nodes, %d edges, %d; not %d nodes, %d edges", call, got.Nodes, len(got.Edges), err, nodes, len(l))
	}
	if no := graph.Check(got); no != api.OK {
		t.Errorf("%s may not be: %d", call, no)
	}
}

// checkNone checks that a graph is not told, but an error.
func checkNone(t *testing.T, call string, got api.Graph, err, want api.Errno) {
	t.Helper()
	if err != want || got.Nodes != 0 || len(got.Edges) != 0 {
		t.Errorf("%s is %d nodes, %d edges, %d; not the error %d", call, got.Nodes, len(got.Edges), err, want)
	}
}
