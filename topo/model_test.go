package topo_test

import (
	"cmp"
	"math"
	"math/rand"
	"slices"
	"testing"

	"yardarm/api"
)

// e tells an edge.
func e(from, to, kind int) api.Edge {
	return api.Edge{From: from, To: to, Kind: kind}
}

// compare holds edges against each other by From, then To, then Kind.
func compare(a, b api.Edge) int {
	return cmp.Or(cmp.Compare(a.From, b.From), cmp.Compare(a.To, b.To), cmp.Compare(a.Kind, b.Kind))
}

// made tells the graph of the edges, which may stand in any order, and more than once.
func made(nodes int, l ...api.Edge) api.Graph {
	l = slices.Clone(l)
	slices.SortFunc(l, compare)
	return api.Graph{Nodes: nodes, Edges: slices.Compact(l)}
}

// every tells all edges between so many nodes, of these kinds, in order.
func every(nodes int, kinds ...int) []api.Edge {
	var l []api.Edge
	for from := range nodes {
		for to := range nodes {
			for _, kind := range kinds {
				if from != to {
					l = append(l, e(from, to, kind))
				}
			}
		}
	}
	return l
}

// parts tells all graphs of so many nodes, and of edges of these kinds.
func parts(nodes int, kinds ...int) []api.Graph {
	var all []api.Graph
	l := every(nodes, kinds...)
	for picked := range 1 << len(l) {
		g := api.Graph{Nodes: nodes}
		for at, edge := range l {
			if picked>>at&1 == 1 {
				g.Edges = append(g.Edges, edge)
			}
		}
		all = append(all, g)
	}
	return all
}

// small tells all graphs of at most 3 nodes, with edges of two kinds, and all of 4 nodes, with edges of one.
func small() []api.Graph {
	return slices.Concat(parts(0), parts(1, 0), parts(2, 0, 9), parts(3, 0, 9), parts(4, 4))
}

// row tells the longest row of nodes, an edge of a kind from each to the next one.
func row(kind int) api.Graph {
	g := api.Graph{Nodes: api.MaxNodes}
	for v := range g.Nodes - 1 {
		g.Edges = append(g.Edges, e(v, v+1, kind))
	}
	return g
}

// anyEdges tells so many edges, of any kinds, that lead forward in the row of nodes, which has two at least.
func anyEdges(r *rand.Rand, nodes []int, many int) []api.Edge {
	l := make([]api.Edge, many)
	for i := range l {
		from := r.Intn(len(nodes) - 1)
		to := from + 1 + r.Intn(len(nodes)-1-from)
		l[i] = e(nodes[from], nodes[to], r.Intn(api.MaxKind+1))
	}
	return l
}

// full tells the graph that has, in the row of nodes, all edges of a kind that lead forward.
func full(nodes []int, kind int) api.Graph {
	var l []api.Edge
	for at, from := range nodes {
		for _, to := range nodes[at+1:] {
			l = append(l, e(from, to, kind))
		}
	}
	return made(len(nodes), l...)
}

// large tells graphs of more nodes: the longest rows and the longest way round, to both sides; the most edges; and any others, of which no nodes are left, or some.
func large(many int) []api.Graph {
	r := rand.New(rand.NewSource(7))
	long := row(3)
	back := made(api.MaxNodes, turned(long.Edges)...)
	last := api.MaxNodes - 1
	all := []api.Graph{
		{Nodes: api.MaxNodes}, long, back,
		made(api.MaxNodes, append(long.Edges, e(last, 0, 9))...),
		made(api.MaxNodes, append(back.Edges, e(0, last, 0))...),
		made(api.MaxNodes, append(long.Edges, e(last, last-1, 0))...),
		{Nodes: api.MaxNodes, Edges: every(api.MaxNodes, 0, 9)[:api.MaxEdges]},
		full(r.Perm(280), 9), full(r.Perm(280), 0),
	}
	for range many {
		nodes := r.Perm(5 + r.Intn(api.MaxNodes-4))
		l := anyEdges(r, nodes, r.Intn(3*len(nodes)))
		all = append(all, made(len(nodes), l...))
		cut := 2 + r.Intn(len(nodes)-2)
		l = append(l, turned(anyEdges(r, nodes[cut-2:], 1+r.Intn(3)))...)
		all = append(all, made(len(nodes), l...))
		few := r.Perm(5 + r.Intn(6))
		all = append(all, made(len(few), anyEdges(r, few, r.Intn(12))...))
	}
	return all
}

// turned tells of each edge the one that leads back.
func turned(l []api.Edge) []api.Edge {
	back := make([]api.Edge, len(l))
	for i, x := range l {
		back[i] = e(x.To, x.From, x.Kind)
	}
	return back
}

// outside are numbers of nodes that no graph has.
var outside = []int{math.MinInt, -300, -2, -1, api.MaxNodes + 1, 1 << 32, math.MaxInt - 1, math.MaxInt}

// wrong tells graphs that may not be: by their nodes, by an edge, by the order, by how many edges there are.
func wrong() []api.Graph {
	all := []api.Graph{
		{Nodes: 3, Edges: []api.Edge{e(0, 1, 0), e(0, 1, 0)}},
		{Nodes: 3, Edges: []api.Edge{e(0, 1, 1), e(0, 1, 0)}},
		{Nodes: 3, Edges: []api.Edge{e(1, 2, 0), e(0, 1, 0)}},
		{Nodes: 3, Edges: []api.Edge{e(0, 1, 0), e(1, 2, 0), e(2, 2, 0)}},
		{Nodes: api.MaxNodes, Edges: every(api.MaxNodes, 0, 9)[:api.MaxEdges+1]},
		{Nodes: 0, Edges: []api.Edge{e(0, 1, 0)}},
		{Nodes: 1, Edges: []api.Edge{e(0, 0, 0)}},
		{Nodes: -1, Edges: []api.Edge{e(0, 1, 0)}},
	}
	for _, n := range outside {
		all = append(all, api.Graph{Nodes: n})
		for _, edge := range []api.Edge{e(n, 0, 0), e(0, n, 0), e(n, n, 0), e(0, 1, n)} {
			all = append(all, api.Graph{Nodes: 3, Edges: []api.Edge{edge}})
		}
	}
	return append(all, api.Graph{Nodes: 3, Edges: []api.Edge{e(0, 3, 0)}}, api.Graph{Nodes: 3, Edges: []api.Edge{e(0, 1, 10)}})
}

// model is what the chapter's words say of a graph, one by one: the nodes as they are taken, what is left, and how deep each is, if nothing is.
type model struct {
	taken, left, depth []int
}

// modelOf tells the model of g.
func modelOf(g api.Graph) model {
	var m model
	for v := range g.Nodes {
		m.left = append(m.left, v)
	}
	for {
		at := slices.IndexFunc(m.left, func(v int) bool { return free(g, v, m.left) })
		if at < 0 {
			break
		}
		m.taken = append(m.taken, m.left[at])
		m.left = slices.Delete(m.left, at, at+1)
	}
	if len(m.left) == 0 {
		m.depth = depth(g)
	}
	return m
}

// free tells whether no edge leads to v from one of those that are left.
func free(g api.Graph, v int, left []int) bool {
	return !slices.ContainsFunc(g.Edges, func(x api.Edge) bool {
		_, is := slices.BinarySearch(left, x.From)
		return x.To == v && is
	})
}

// depth tells how deep each node is, by making ways longer until nothing more comes; no nodes are left.
func depth(g api.Graph) []int {
	deep := make([]int, g.Nodes)
	for more := true; more; {
		more = false
		for _, x := range g.Edges {
			if deep[x.To] <= deep[x.From] {
				deep[x.To] = deep[x.From] + 1
				more = true
			}
		}
	}
	return deep
}

// right tells whether each node stands in l once, and each edge leads to a place behind the one where it begins.
func right(g api.Graph, l []int) bool {
	once := slices.Sorted(slices.Values(l))
	for v := range once {
		if once[v] != v {
			return false
		}
	}
	return len(l) == g.Nodes && !slices.ContainsFunc(g.Edges, func(x api.Edge) bool {
		return slices.Index(l, x.From) >= slices.Index(l, x.To)
	})
}

// orders tells all orders of so many nodes, the less ones ahead.
func orders(nodes int) [][]int {
	all := [][]int{nil}
	for range nodes {
		var longer [][]int
		for _, l := range all {
			for v := range nodes {
				if !slices.Contains(l, v) {
					longer = append(longer, append(slices.Clone(l), v))
				}
			}
		}
		all = longer
	}
	return all
}

// rows tells all lists of at most so many numbers, each from low to high.
func rows(many, low, high int) [][]int {
	all := [][]int{nil}
	for at := 0; at < len(all); at++ {
		for v := low; v <= high && len(all[at]) < many; v++ {
			all = append(all, append(slices.Clone(all[at]), v))
		}
	}
	return all
}

// checkRow checks the list that a call told, and that it told that there is one just if that is wanted.
func checkRow(t *testing.T, call string, g api.Graph, got []int, ok bool, err api.Errno, want []int, is bool) {
	t.Helper()
	if err != api.OK || ok != is || !slices.Equal(got, want) {
		t.Errorf("%s of %d nodes, %d edges is %v, %v, %d; not %v, %v", call, g.Nodes, len(g.Edges), got, ok, err, want, is)
	}
}
