package path_test

import (
	"cmp"
	"math"
	"math/rand"
	"slices"
	"testing"

	"yardarm/api"
)

// e tells an edge.
func e(from, to, kind int) api.Edge {
	return api.Edge{From: from, To: to, Kind: kind}
}

// compare holds edges against each other by From, then To, then Kind.
func compare(a, b api.Edge) int {
	return cmp.Or(cmp.Compare(a.From, b.From), cmp.Compare(a.To, b.To), cmp.Compare(a.Kind, b.Kind))
}

// made tells the graph of the edges, which may stand in any order, and more than once.
func made(nodes int, l ...api.Edge) api.Graph {
	l = slices.Clone(l)
	slices.SortFunc(l, compare)
	return api.Graph{Nodes: nodes, Edges: slices.Compact(l)}
}

// every tells all edges between so many nodes, of these kinds, in order.
func every(nodes int, kinds ...int) []api.Edge {
	var l []api.Edge
	for from := range nodes {
		for to := range nodes {
			for _, kind := range kinds {
				if from != to {
					l = append(l, e(from, to, kind))
				}
			}
		}
	}
	return l
}

// parts tells all graphs of so many nodes, and of edges of these kinds.
func parts(nodes int, kinds ...int) []api.Graph {
	var all []api.Graph
	l := every(nodes, kinds...)
	for picked := range 1 << len(l) {
		g := api.Graph{Nodes: nodes}
		for at, edge := range l {
			if picked>>at&1 == 1 {
				g.Edges = append(g.Edges, edge)
			}
		}
		all = append(all, g)
	}
	return all
}

// small tells all graphs of at most 3 nodes, with edges of two kinds, and all of 4 nodes, with edges of one.
func small() []api.Graph {
	return slices.Concat(parts(0), parts(1, 0), parts(2, 0, 9), parts(3, 0, 9), parts(4, 4))
}

// row tells so many nodes, an edge of a kind from each to the next one.
func row(nodes, kind int) api.Graph {
	g := api.Graph{Nodes: nodes}
	for v := range nodes - 1 {
		g.Edges = append(g.Edges, e(v, v+1, kind))
	}
	return g
}

// anyGraph tells a graph of so many nodes, two at least, with so many edges at most, of any kinds, between any of them.
func anyGraph(r *rand.Rand, nodes, many int) api.Graph {
	l := make([]api.Edge, many)
	for i := range l {
		from, step := r.Intn(nodes), 1+r.Intn(nodes-1)
		l[i] = e(from, (from+step)%nodes, r.Intn(api.MaxKind+1))
	}
	return made(nodes, l...)
}

// anyRounds tells a graph of cycles, of any of the nodes, and of edges between them.
func anyRounds(r *rand.Rand, nodes, many int) api.Graph {
	l := anyGraph(r, nodes, nodes/3).Edges
	for range many {
		some := r.Perm(nodes)[:2+r.Intn(nodes-1)/2]
		for i, v := range some {
			l = append(l, e(v, some[(i+1)%len(some)], r.Intn(api.MaxKind+1)))
		}
	}
	return made(nodes, l...)
}

// anyLayers tells a graph of so many layers of so many nodes each, with edges from each node to some of the next layer, and from the last layer to the first: many ways in it are equally long.
func anyLayers(r *rand.Rand, layers, wide int) api.Graph {
	nodes := r.Perm(layers * wide)
	var l []api.Edge
	for at, from := range nodes {
		next := (at/wide + 1) % layers
		for range 1 + r.Intn(wide) {
			l = append(l, e(from, nodes[next*wide+r.Intn(wide)], r.Intn(api.MaxKind+1)))
		}
	}
	return made(len(nodes), l...)
}

// large tells graphs of more nodes: the longest rows and the longest way round, to both sides; the most edges; and any others.
func large(many int) []api.Graph {
	long := row(api.MaxNodes, 3)
	back := made(api.MaxNodes, turned(long.Edges)...)
	all := []api.Graph{
		{Nodes: api.MaxNodes}, long, back,
		made(api.MaxNodes, append(long.Edges, e(api.MaxNodes-1, 0, 9))...),
		made(api.MaxNodes, append(back.Edges, e(0, api.MaxNodes-1, 0))...),
		made(api.MaxNodes, append(back.Edges, long.Edges...)...),
		{Nodes: api.MaxNodes, Edges: every(api.MaxNodes, 0, 9)[:api.MaxEdges]},
		{Nodes: 200, Edges: every(200, 5)},
	}
	r := rand.New(rand.NewSource(8))
	for range many {
		nodes := 5 + r.Intn(api.MaxNodes-4)
		all = append(all, anyGraph(r, nodes, r.Intn(3*nodes)), anyRounds(r, nodes, r.Intn(4)))
		all = append(all, anyGraph(r, 5+r.Intn(8), r.Intn(20)), anyLayers(r, 2+r.Intn(8), 1+r.Intn(7)))
	}
	return all
}

// turned tells of each edge the one that leads back.
func turned(l []api.Edge) []api.Edge {
	back := make([]api.Edge, len(l))
	for i, x := range l {
		back[i] = e(x.To, x.From, x.Kind)
	}
	return back
}

// outside are numbers of nodes that no graph has.
var outside = []int{math.MinInt, -300, -2, -1, api.MaxNodes + 1, 1 << 32, math.MaxInt - 1, math.MaxInt}

// wrong tells graphs that may not be: by their nodes, by an edge, by the order, by how many edges there are.
func wrong() []api.Graph {
	all := []api.Graph{
		{Nodes: 3, Edges: []api.Edge{e(0, 1, 0), e(0, 1, 0)}},
		{Nodes: 3, Edges: []api.Edge{e(0, 1, 1), e(0, 1, 0)}},
		{Nodes: 3, Edges: []api.Edge{e(1, 0, 0), e(0, 1, 0)}},
		{Nodes: 3, Edges: []api.Edge{e(0, 1, 0), e(1, 0, 0), e(2, 2, 0)}},
		{Nodes: api.MaxNodes, Edges: every(api.MaxNodes, 0, 9)[:api.MaxEdges+1]},
		{Nodes: 0, Edges: []api.Edge{e(0, 1, 0)}},
		{Nodes: 1, Edges: []api.Edge{e(0, 0, 0)}},
		{Nodes: -1, Edges: []api.Edge{e(0, 1, 0)}},
	}
	for _, n := range outside {
		all = append(all, api.Graph{Nodes: n})
		for _, edge := range []api.Edge{e(n, 0, 0), e(0, n, 0), e(n, n, 0), e(0, 1, n)} {
			all = append(all, api.Graph{Nodes: 3, Edges: []api.Edge{edge}})
		}
	}
	return append(all, api.Graph{Nodes: 3, Edges: []api.Edge{e(0, 3, 0)}}, api.Graph{Nodes: 3, Edges: []api.Edge{e(0, 1, 10)}})
}

// model is what the chapter's words say of a graph, one by one: whether an edge leads from one node to another one, and how long the shortest way is, -1 if there is none.
type model struct {
	leads [][]bool
	far   [][]int
}

// modelOf tells the model of g: ways are made longer by one edge at their ends, until nothing more comes.
func modelOf(g api.Graph) model {
	m := model{leads: make([][]bool, g.Nodes), far: make([][]int, g.Nodes)}
	next := make([][]int, g.Nodes)
	for v := range g.Nodes {
		m.leads[v] = make([]bool, g.Nodes)
		m.far[v] = slices.Repeat([]int{-1}, g.Nodes)
		m.far[v][v] = 0
	}
	for _, x := range g.Edges {
		if !m.leads[x.From][x.To] {
			m.leads[x.From][x.To] = true
			next[x.From] = append(next[x.From], x.To)
		}
	}
	for from := range g.Nodes {
		for long, more := 0, true; more; long++ {
			more = false
			for v := range g.Nodes {
				if m.far[from][v] != long {
					continue
				}
				for _, to := range next[v] {
					if m.far[from][to] < 0 {
						m.far[from][to] = long + 1
						more = true
					}
				}
			}
		}
	}
	return m
}

// shortest tells the least of all shortest ways, if there is one: each step goes to the least node from which what is left is shorter by one.
func (m model) shortest(from, to int) []int {
	left := m.far[from][to]
	if left < 0 {
		return nil
	}
	l := []int{from}
	for ; left > 0; left-- {
		last := l[len(l)-1]
		for v := range m.far {
			if m.leads[last][v] && m.far[v][to] == left-1 {
				l = append(l, v)
				break
			}
		}
	}
	return l
}

// through tells the least of all shortest cycles that have v, written from v on, if there is one: an edge from v, and the way back from there.
func (m model) through(v int) []int {
	var best []int
	for to := range m.far {
		if m.leads[v][to] && m.far[to][v] > 0 {
			l := m.shortest(to, v)
			best = better(best, append([]int{v}, l[:len(l)-1]...))
		}
	}
	return best
}

// cycle tells the least of all shortest cycles, if there is one.
func (m model) cycle() []int {
	var best []int
	for v := range m.far {
		if l := m.through(v); l != nil {
			at := slices.Index(l, slices.Min(l))
			best = better(best, slices.Concat(l[at:], l[:at]))
		}
	}
	return best
}

// is tells whether l is a way, or, if round, a cycle, written from its least node on.
func (m model) is(l []int, round bool) bool {
	for at, v := range l {
		if v < 0 || v >= len(m.far) || slices.Contains(l[:at], v) || at > 0 && !m.leads[l[at-1]][v] {
			return false
		}
	}
	if !round {
		return len(l) > 0
	}
	return len(l) > 1 && l[0] == slices.Min(l) && m.leads[l[len(l)-1]][l[0]]
}

// better tells the shorter one of two rows, of equally long ones the lesser one; nil is none.
func better(a, b []int) []int {
	if a == nil || b != nil && (len(b) < len(a) || len(b) == len(a) && slices.Compare(b, a) < 0) {
		return b
	}
	return a
}

// lists tells all lists of at most so many numbers, each from low to high.
func lists(many, low, high int) [][]int {
	all := [][]int{nil}
	for at := 0; at < len(all); at++ {
		for v := low; v <= high && len(all[at]) < many; v++ {
			all = append(all, append(slices.Clone(all[at]), v))
		}
	}
	return all
}

// checkRow checks the list that a call told: the one that is wanted, or, if that is none, ErrNone and nothing.
func checkRow(t *testing.T, call string, g api.Graph, got []int, err api.Errno, want []int) {
	t.Helper()
	no := api.OK
	if want == nil {
		no = api.ErrNone
	}
	if err != no || !slices.Equal(got, want) {
		t.Errorf("%s of %d nodes, %d edges is %v, %d; not %v", call, g.Nodes, len(g.Edges), got, err, want)
	}
}
