package scc_test

import (
	"cmp"
	"math"
	"math/rand"
	"slices"
	"testing"

	"yardarm/api"
	"yardarm/graph"
)

// e tells an edge.
func e(from, to, kind int) api.Edge {
	return api.Edge{From: from, To: to, Kind: kind}
}

// compare holds edges against each other by From, then To, then Kind.
func compare(a, b api.Edge) int {
	return cmp.Or(cmp.Compare(a.From, b.From), cmp.Compare(a.To, b.To), cmp.Compare(a.Kind, b.Kind))
}

// made tells the graph of the edges, which may stand in any order, and more than once.
func made(nodes int, l ...api.Edge) api.Graph {
	l = slices.Clone(l)
	slices.SortFunc(l, compare)
	return api.Graph{Nodes: nodes, Edges: slices.Compact(l)}
}

// every tells all edges between so many nodes, of these kinds, in order.
func every(nodes int, kinds ...int) []api.Edge {
	var l []api.Edge
	for from := range nodes {
		for to := range nodes {
			for _, kind := range kinds {
				if from != to {
					l = append(l, e(from, to, kind))
				}
			}
		}
	}
	return l
}

// parts tells all graphs of so many nodes, and of edges of these kinds.
func parts(nodes int, kinds ...int) []api.Graph {
	var all []api.Graph
	l := every(nodes, kinds...)
	for picked := range 1 << len(l) {
		g := api.Graph{Nodes: nodes}
		for at, edge := range l {
			if picked>>at&1 == 1 {
				g.Edges = append(g.Edges, edge)
			}
		}
		all = append(all, g)
	}
	return all
}

// small tells all graphs of at most 3 nodes, with edges of two kinds, and all of 4 nodes, with edges of one.
func small() []api.Graph {
	return slices.Concat(parts(0), parts(1, 0), parts(2, 0, 9), parts(3, 0, 9), parts(4, 4))
}

// row tells so many nodes, an edge of a kind from each to the next one.
func row(nodes, kind int) api.Graph {
	g := api.Graph{Nodes: nodes}
	for v := range nodes - 1 {
		g.Edges = append(g.Edges, e(v, v+1, kind))
	}
	return g
}

// anyGraph tells a graph of so many nodes, two at least, with so many edges at most, of any kinds, between any of them.
func anyGraph(r *rand.Rand, nodes, many int) api.Graph {
	l := make([]api.Edge, many)
	for i := range l {
		from, step := r.Intn(nodes), 1+r.Intn(nodes-1)
		l[i] = e(from, (from+step)%nodes, r.Intn(api.MaxKind+1))
	}
	return made(nodes, l...)
}

// anyRounds tells a graph of cycles, of any of the nodes, and of edges between them.
func anyRounds(r *rand.Rand, nodes, many int) api.Graph {
	l := anyGraph(r, nodes, nodes/3).Edges
	for range many {
		some := r.Perm(nodes)[:2+r.Intn(nodes-1)/2]
		for i, v := range some {
			l = append(l, e(v, some[(i+1)%len(some)], r.Intn(api.MaxKind+1)))
		}
	}
	return made(nodes, l...)
}

// large tells graphs of more nodes: the longest rows and the longest way round, to both sides; the most edges; and any others.
func large(many int) []api.Graph {
	long := row(api.MaxNodes, 3)
	back := made(api.MaxNodes, turned(long.Edges)...)
	all := []api.Graph{
		{Nodes: api.MaxNodes}, long, back,
		made(api.MaxNodes, append(long.Edges, e(api.MaxNodes-1, 0, 9))...),
		made(api.MaxNodes, append(back.Edges, e(0, api.MaxNodes-1, 0))...),
		made(api.MaxNodes, append(back.Edges, long.Edges...)...),
		{Nodes: api.MaxNodes, Edges: every(api.MaxNodes, 0, 9)[:api.MaxEdges]},
		{Nodes: 200, Edges: every(200, 5)},
	}
	r := rand.New(rand.NewSource(6))
	for range many {
		nodes := 5 + r.Intn(api.MaxNodes-4)
		all = append(all, anyGraph(r, nodes, r.Intn(3*nodes)), anyRounds(r, nodes, r.Intn(4)))
		all = append(all, anyGraph(r, 5+r.Intn(8), r.Intn(20)))
	}
	return all
}

// turned tells of each edge the one that leads back.
func turned(l []api.Edge) []api.Edge {
	back := make([]api.Edge, len(l))
	for i, x := range l {
		back[i] = e(x.To, x.From, x.Kind)
	}
	return back
}

// outside are numbers of nodes that no graph has.
var outside = []int{math.MinInt, -300, -2, -1, api.MaxNodes + 1, 1 << 32, math.MaxInt - 1, math.MaxInt}

// wrong tells graphs that may not be: by their nodes, by an edge, by the order, by how many edges there are.
func wrong() []api.Graph {
	all := []api.Graph{
		{Nodes: 3, Edges: []api.Edge{e(0, 1, 0), e(0, 1, 0)}},
		{Nodes: 3, Edges: []api.Edge{e(0, 1, 1), e(0, 1, 0)}},
		{Nodes: 3, Edges: []api.Edge{e(1, 0, 0), e(0, 1, 0)}},
		{Nodes: 3, Edges: []api.Edge{e(0, 1, 0), e(1, 0, 0), e(2, 2, 0)}},
		{Nodes: api.MaxNodes, Edges: every(api.MaxNodes, 0, 9)[:api.MaxEdges+1]},
		{Nodes: 0, Edges: []api.Edge{e(0, 1, 0)}},
		{Nodes: 1, Edges: []api.Edge{e(0, 0, 0)}},
		{Nodes: -1, Edges: []api.Edge{e(0, 1, 0)}},
	}
	for _, n := range outside {
		all = append(all, api.Graph{Nodes: n})
		for _, edge := range []api.Edge{e(n, 0, 0), e(0, n, 0), e(n, n, 0), e(0, 1, n)} {
			all = append(all, api.Graph{Nodes: 3, Edges: []api.Edge{edge}})
		}
	}
	return append(all, api.Graph{Nodes: 3, Edges: []api.Edge{e(0, 3, 0)}}, api.Graph{Nodes: 3, Edges: []api.Edge{e(0, 1, 10)}})
}

// reached tells of each node which nodes it leads to, by going on from it until nothing new comes.
func reached(g api.Graph) [][]bool {
	next := make([][]int, g.Nodes)
	for _, x := range g.Edges {
		next[x.From] = append(next[x.From], x.To)
	}
	all := make([][]bool, g.Nodes)
	for v := range all {
		all[v] = make([]bool, g.Nodes)
		todo := []int{v}
		for len(todo) > 0 {
			from := todo[0]
			todo = todo[1:]
			for _, to := range next[from] {
				if !all[v][to] {
					all[v][to] = true
					todo = append(todo, to)
				}
			}
		}
	}
	return all
}

// model is what the chapter's words say of a graph, one by one.
type model struct {
	leads [][]bool
	sets  [][]int
	of    []int
}

// modelOf tells the model of g: the components by their least nodes.
func modelOf(g api.Graph) model {
	m := model{leads: reached(g), of: make([]int, g.Nodes)}
	for v := range g.Nodes {
		if slices.ContainsFunc(m.sets, func(set []int) bool { return slices.Contains(set, v) }) {
			continue
		}
		var set []int
		for u := range g.Nodes {
			if m.together(v, u) {
				set = append(set, u)
				m.of[u] = len(m.sets)
			}
		}
		m.sets = append(m.sets, set)
	}
	return m
}

// together tells whether two nodes are.
func (m model) together(u, v int) bool {
	return u == v || m.leads[u][v] && m.leads[v][u]
}

// round tells the nodes that lead to themselves.
func (m model) round() []int {
	var l []int
	for v := range m.of {
		if m.leads[v][v] {
			l = append(l, v)
		}
	}
	return l
}

// wantWords tells the words of the set of numbers.
func wantWords(l []int) []uint64 {
	var words []uint64
	for _, n := range l {
		for len(words) <= n/64 {
			words = append(words, 0)
		}
		words[n/64] |= 1 << (n % 64)
	}
	return words
}

// checkGraph checks that the graph got may be, and is as wanted.
func checkGraph(t *testing.T, call string, got api.Graph, err api.Errno, want api.Graph) {
	t.Helper()
	if err != api.OK || got.Nodes != want.Nodes || !slices.Equal(got.Edges, want.Edges) {
		t.Errorf("%s is %d nodes, %d edges, %d; not %d nodes, %d edges", call, got.Nodes, len(got.Edges), err, want.Nodes, len(want.Edges))
	}
	if no := graph.Check(got); no != api.OK {
		t.Errorf("%s may not be: %d", call, no)
	}
}

// sameSets tells whether both have the same lists.
func sameSets(a, b [][]int) bool {
	return slices.EqualFunc(a, b, slices.Equal[[]int])
}
