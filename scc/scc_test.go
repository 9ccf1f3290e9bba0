package scc_test

import (
	"math/rand"
	"slices"
	"testing"

	"yardarm/api"
	"yardarm/bits"
	"yardarm/graph"
	"yardarm/scc"
)

// P6.1 to P6.3: the chapter's examples.
func TestExamples(t *testing.T) {
	l := []api.Edge{e(0, 1, 0), e(1, 2, 0), e(2, 1, 0), e(3, 0, 0)}
	g := api.Graph{Nodes: 4, Edges: l}
	if of, err := scc.Of(g); err != api.OK || !slices.Equal(of, []int{0, 1, 1, 2}) {
		t.Errorf("Of is %v, %d", of, err)
	}
	if sets, err := scc.Sets(g); err != api.OK || !sameSets(sets, [][]int{{0}, {1, 2}, {3}}) {
		t.Errorf("Sets is %v, %d", sets, err)
	}
	if is, err := scc.Cyclic(g); err != api.OK || !is {
		t.Errorf("Cyclic is %v, %d", is, err)
	}
	if set, err := scc.Round(g); err != api.OK || !slices.Equal(set.Words, []uint64{6}) {
		t.Errorf("Round is %v, %d", set, err)
	}
	inner, err := scc.Inner(g)
	checkGraph(t, "Inner", inner, err, api.Graph{Nodes: 4, Edges: l[1:3]})
	fold, err := scc.Fold(g)
	checkGraph(t, "Fold", fold, err, api.Graph{Nodes: 3, Edges: []api.Edge{e(0, 1, 0), e(2, 0, 0)}})
	if of, err := scc.Of(api.Graph{}); err != api.OK || len(of) != 0 {
		t.Errorf("Of no nodes is %v, %d", of, err)
	}
	if of, err := scc.Of(api.Graph{Nodes: -1}); err != api.ErrGraph || len(of) != 0 {
		t.Errorf("Of -1 nodes is %v, %d", of, err)
	}
}

// P6.1: the components, in order, and the number of that of each node.
func TestOfSets(t *testing.T) {
	for _, g := range append(small(), large(20)...) {
		m := modelOf(g)
		if of, err := scc.Of(g); err != api.OK || !slices.Equal(of, m.of) {
			t.Errorf("Of %d nodes, %d edges is %v, %d; not %v", g.Nodes, len(g.Edges), of, err, m.of)
		}
		if sets, err := scc.Sets(g); err != api.OK || !sameSets(sets, m.sets) {
			t.Errorf("Sets of %d nodes, %d edges is %v, %d; not %v", g.Nodes, len(g.Edges), sets, err, m.sets)
		}
	}
}

// P6.2: who leads to himself, and whether anybody does.
func TestCyclicRound(t *testing.T) {
	for _, g := range append(small(), large(20)...) {
		want := modelOf(g).round()
		if is, err := scc.Cyclic(g); err != api.OK || is != (len(want) > 0) {
			t.Errorf("Cyclic of %d nodes, %d edges is %v, %d", g.Nodes, len(g.Edges), is, err)
		}
		if set, err := scc.Round(g); err != api.OK || !slices.Equal(set.Words, wantWords(want)) {
			t.Errorf("Round of %d nodes, %d edges is %x, %d; not %v", g.Nodes, len(g.Edges), set.Words, err, want)
		}
	}
}

// P6.3: the edges within components.
func TestInner(t *testing.T) {
	for _, g := range append(small(), large(20)...) {
		m := modelOf(g)
		want := api.Graph{Nodes: g.Nodes}
		for _, x := range g.Edges {
			if m.together(x.From, x.To) {
				want.Edges = append(want.Edges, x)
			}
		}
		got, err := scc.Inner(g)
		checkGraph(t, "Inner", got, err, want)
	}
}

// P6.3: the edges between components, each kind once.
func TestFold(t *testing.T) {
	for _, g := range append(small(), large(20)...) {
		m := modelOf(g)
		var want []api.Edge
		for _, x := range g.Edges {
			if !m.together(x.From, x.To) {
				want = append(want, e(m.of[x.From], m.of[x.To], x.Kind))
			}
		}
		got, err := scc.Fold(g)
		checkGraph(t, "Fold", got, err, made(len(m.sets), want...))
	}
}

// P6.3: edges that come to the same between components are one; another kind stays another one; a component's number is of its least node, though an edge leads from a later one to an earlier one.
func TestFoldKinds(t *testing.T) {
	g := made(5, e(0, 3, 1), e(3, 0, 2), e(1, 4, 0), e(4, 1, 9), e(4, 0, 7), e(1, 3, 7), e(1, 0, 7), e(4, 3, 6), e(0, 2, 9), e(3, 2, 9), e(3, 2, 0))
	got, err := scc.Fold(g)
	checkGraph(t, "Fold", got, err, api.Graph{Nodes: 3, Edges: []api.Edge{e(0, 2, 0), e(0, 2, 9), e(1, 0, 6), e(1, 0, 7)}})
}

// What may not be: all calls tell that, and nothing else.
func TestWrong(t *testing.T) {
	for _, g := range wrong() {
		of, no1 := scc.Of(g)
		sets, no2 := scc.Sets(g)
		is, no3 := scc.Cyclic(g)
		set, no4 := scc.Round(g)
		inner, no5 := scc.Inner(g)
		fold, no6 := scc.Fold(g)
		for i, no := range []api.Errno{no1, no2, no3, no4, no5, no6} {
			if no != api.ErrGraph {
				t.Errorf("call %d of %d nodes, %d edges is %d", i, g.Nodes, len(g.Edges), no)
			}
		}
		n := len(of) + len(sets) + len(set.Words) + inner.Nodes + len(inner.Edges) + fold.Nodes + len(fold.Edges)
		if n != 0 || is {
			t.Errorf("of %d nodes, %d edges, which may not be, %d are told, %v", g.Nodes, len(g.Edges), n, is)
		}
	}
}

// P6.4: each node is in one component; Fold is not cyclic; Inner has all cycles; turned round a graph has the same components.
func TestLaws(t *testing.T) {
	for _, g := range append(small(), large(20)...) {
		of, _ := scc.Of(g)
		sets, _ := scc.Sets(g)
		all := slices.Concat(sets...)
		slices.Sort(all)
		for v := range all {
			if all[v] != v || !slices.Contains(sets[of[v]], v) {
				t.Fatalf("the components of %d nodes are %v, and %v", g.Nodes, of, sets)
			}
		}
		if len(all) != g.Nodes {
			t.Errorf("of %d nodes %d are in a component", g.Nodes, len(all))
		}
		fold, _ := scc.Fold(g)
		if is, err := scc.Cyclic(fold); is || err != api.OK {
			t.Errorf("Fold of %d nodes, %d edges is cyclic, %d", g.Nodes, len(g.Edges), err)
		}
		inner, _ := scc.Inner(g)
		checkAlike(t, "Inner", g, inner)
		rest, _ := graph.Filter(g, func(x api.Edge) bool { return !slices.Contains(inner.Edges, x) })
		if is, err := scc.Cyclic(rest); is || err != api.OK {
			t.Errorf("what Inner leaves out of %d nodes, %d edges is cyclic, %d", g.Nodes, len(g.Edges), err)
		}
		back, _ := graph.Reverse(g)
		checkAlike(t, "Reverse", g, back)
	}
}

// checkAlike checks that both graphs have the same components, and the same nodes that lead to themselves.
func checkAlike(t *testing.T, call string, a, b api.Graph) {
	t.Helper()
	of, err := scc.Of(a)
	other, no := scc.Of(b)
	if err != api.OK || no != api.OK || !slices.Equal(of, other) {
		t.Errorf("%s: the components are %v, %d, and %v, %d", call, of, err, other, no)
	}
	round, _ := scc.Round(a)
	same, _ := scc.Round(b)
	if !bits.Same(round, same) {
		t.Errorf("%s: %v lead to themselves, and %v", call, bits.List(round), bits.List(same))
	}
}

// P6.4: an edge more, from where the graph leads to to where it leads from, puts both together; one that leads as the graph does already changes no component.
func TestEdgeMore(t *testing.T) {
	r := rand.New(rand.NewSource(9))
	for _, g := range append(parts(3, 0, 9), large(12)...) {
		if len(g.Edges) == api.MaxEdges {
			continue
		}
		leads := reached(g)
		for range 12 {
			from, to := r.Intn(g.Nodes), r.Intn(g.Nodes)
			if from == to || !leads[from][to] {
				continue
			}
			checkAlike(t, "an edge that leads as the graph does", g, made(g.Nodes, append(g.Edges, e(from, to, 5))...))
			of, err := scc.Of(made(g.Nodes, append(g.Edges, e(to, from, 5))...))
			if err != api.OK || of[from] != of[to] {
				t.Errorf("with an edge from %d to %d they are %v, %d", to, from, of, err)
			}
		}
	}
}
