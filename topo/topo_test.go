package topo_test

import (
	"math"
	"math/rand"
	"slices"
	"testing"

	"yardarm/api"
	"yardarm/graph"
	"yardarm/topo"
)

// P7.1 to P7.3: the chapter's examples.
func TestExamples(t *testing.T) {
	g := api.Graph{Nodes: 4, Edges: []api.Edge{e(2, 0, 0), e(3, 1, 0)}}
	l, ok, err := topo.Order(g)
	checkRow(t, "Order", g, l, ok, err, []int{2, 0, 3, 1}, true)
	l, ok, err = topo.Depth(g)
	checkRow(t, "Depth", g, l, ok, err, []int{1, 1, 0, 0}, true)
	g = api.Graph{Nodes: 3, Edges: []api.Edge{e(0, 1, 0), e(1, 0, 0), e(1, 2, 0)}}
	l, ok, err = topo.Order(g)
	checkRow(t, "Order", g, l, ok, err, nil, false)
	l, ok, err = topo.Depth(g)
	checkRow(t, "Depth", g, l, ok, err, nil, false)
	l, err = topo.Left(g)
	checkRow(t, "Left", g, l, true, err, []int{0, 1, 2}, true)
	g = api.Graph{Nodes: 3, Edges: []api.Edge{e(1, 2, 0)}}
	if !topo.Right(g, []int{0, 1, 2}) || topo.Right(g, []int{0, 2, 1}) || topo.Right(g, []int{0, 1}) {
		t.Errorf("Right(0 1 2) is %v, Right(0 2 1) %v, Right(0 1) %v",
			topo.Right(g, []int{0, 1, 2}), topo.Right(g, []int{0, 2, 1}), topo.Right(g, []int{0, 1}))
	}
}

// P7.1, P7.2, P7.3: without nodes nothing is left, and the order without nodes is right.
func TestNoNodes(t *testing.T) {
	g := api.Graph{Edges: []api.Edge{}}
	l, ok, err := topo.Order(g)
	checkRow(t, "Order", g, l, ok, err, nil, true)
	l, ok, err = topo.Depth(g)
	checkRow(t, "Depth", g, l, ok, err, nil, true)
	l, err = topo.Left(g)
	checkRow(t, "Left", g, l, true, err, nil, true)
	if !topo.Right(g, nil) || !topo.Right(g, []int{}) || topo.Right(g, []int{0}) {
		t.Errorf("Right of no nodes is %v, %v, and with a node %v", topo.Right(g, nil), topo.Right(g, []int{}), topo.Right(g, []int{0}))
	}
}

// P7.1, P7.3: the nodes as they are taken, what is left, and how deep nodes are.
func TestOrderLeftDepth(t *testing.T) {
	for _, g := range append(small(), large(25)...) {
		m := modelOf(g)
		all := len(m.left) == 0
		want := m.taken
		if !all {
			want = nil
		}
		l, ok, err := topo.Order(g)
		checkRow(t, "Order", g, l, ok, err, want, all)
		l, err = topo.Left(g)
		checkRow(t, "Left", g, l, true, err, m.left, true)
		l, ok, err = topo.Depth(g)
		checkRow(t, "Depth", g, l, ok, err, m.depth, all)
	}
}

// P7.1: a node that comes free late is taken ahead of those that were free long since, if it is less.
func TestOrderLate(t *testing.T) {
	g := made(7, e(5, 2, 0), e(2, 0, 0), e(6, 1, 1), e(6, 1, 2), e(3, 4, 0))
	l, ok, err := topo.Order(g)
	checkRow(t, "Order", g, l, ok, err, []int{3, 4, 5, 2, 0, 6, 1}, true)
}

// P7.1: what stands behind a way round is left, too; what stands ahead of it is not.
func TestLeftBehind(t *testing.T) {
	g := made(8, e(6, 1, 0), e(1, 5, 0), e(5, 3, 0), e(3, 1, 0), e(3, 0, 0), e(0, 7, 9), e(2, 7, 1))
	l, err := topo.Left(g)
	checkRow(t, "Left", g, l, true, err, []int{0, 1, 3, 5, 7}, true)
	l, ok, err := topo.Order(g)
	checkRow(t, "Order", g, l, ok, err, nil, false)
}

// P7.3: the longest way decides, not the first one, nor how many kinds an edge has.
func TestDepthLongest(t *testing.T) {
	g := made(6, e(0, 5, 0), e(0, 5, 1), e(0, 5, 9), e(0, 4, 0), e(4, 3, 0), e(3, 5, 0), e(1, 5, 2), e(5, 2, 0))
	l, ok, err := topo.Depth(g)
	checkRow(t, "Depth", g, l, ok, err, []int{0, 0, 4, 2, 1, 3}, true)
}

// P7.2: of all lists those alone are right that have each node once, and lead forward.
func TestRight(t *testing.T) {
	for _, g := range slices.Concat(parts(0), parts(1, 0), parts(2, 0, 9), parts(3, 4)) {
		for _, l := range rows(g.Nodes+1, -1, g.Nodes) {
			if is := topo.Right(g, l); is != right(g, l) {
				t.Errorf("Right(%v, %v) is %v", g.Edges, l, is)
			}
		}
	}
	for _, g := range append(parts(3, 0, 9), parts(4, 4)...) {
		for _, l := range orders(g.Nodes) {
			if is := topo.Right(g, l); is != right(g, l) {
				t.Errorf("Right(%v, %v) is %v", g.Edges, l, is)
			}
		}
	}
}

// P7.2: of large graphs, right orders, those in which two have changed their places, and any others.
func TestRightLarge(t *testing.T) {
	r := rand.New(rand.NewSource(8))
	for _, g := range large(25) {
		m := modelOf(g)
		l := append(m.taken, m.left...)
		for range 4 {
			if is := topo.Right(g, l); is != right(g, l) {
				t.Errorf("Right of %d nodes, %d edges, %v is %v", g.Nodes, len(g.Edges), l, is)
			}
			i, k := r.Intn(len(l)), r.Intn(len(l))
			l[i], l[k] = l[k], l[i]
		}
		l = r.Perm(g.Nodes)
		if is := topo.Right(g, l); is != right(g, l) {
			t.Errorf("Right of %d nodes, %d edges, %v is %v", g.Nodes, len(g.Edges), l, is)
		}
	}
}

// P7.2: one that is no node, one twice, one too few and one too many are enough, wherever they stand.
func TestRightWrongList(t *testing.T) {
	for _, g := range []api.Graph{{Nodes: api.MaxNodes}, row(0), {Nodes: 3}, {Nodes: 1}} {
		l, _, _ := topo.Order(g)
		if !topo.Right(g, l) {
			t.Fatalf("Right of the order of %d nodes is false", g.Nodes)
		}
		for at := range l {
			for _, n := range []int{-1, g.Nodes, math.MinInt, math.MaxInt, l[(at+1)%len(l)]} {
				no := slices.Clone(l)
				if no[at] = n; topo.Right(g, no) != (n == at) {
					t.Errorf("Right of %d nodes with %d at %d is %v", g.Nodes, n, at, n != at)
				}
			}
			if topo.Right(g, slices.Delete(slices.Clone(l), at, at+1)) || topo.Right(g, append(slices.Clone(l), l[at])) {
				t.Errorf("Right of %d nodes without, or with one more %d is true", g.Nodes, at)
			}
		}
		if topo.Right(g, append(slices.Clone(l), g.Nodes)) || topo.Right(g, append(l, l...)) || topo.Right(g, nil) {
			t.Errorf("Right of %d nodes with more, or with none, is true", g.Nodes)
		}
	}
}

// What may not be: all calls tell that, and nothing else; no order of it is right.
func TestWrong(t *testing.T) {
	for _, g := range wrong() {
		row, ok, no1 := topo.Order(g)
		left, no2 := topo.Left(g)
		deep, is, no3 := topo.Depth(g)
		for i, no := range []api.Errno{no1, no2, no3} {
			if no != api.ErrGraph {
				t.Errorf("call %d of %d nodes, %d edges is %d", i, g.Nodes, len(g.Edges), no)
			}
		}
		if n := len(row) + len(left) + len(deep); n != 0 || ok || is {
			t.Errorf("of %d nodes, %d edges, which may not be, %d are told, %v, %v", g.Nodes, len(g.Edges), n, ok, is)
		}
		long := make([]int, api.MaxNodes+1)
		for v := range long {
			long[v] = v
		}
		for _, l := range append(orders(3), nil, []int{0}, long[:api.MaxNodes], long) {
			if topo.Right(g, l) {
				t.Errorf("of %d nodes, %d edges, which may not be, %d in order are right", g.Nodes, len(g.Edges), len(l))
			}
		}
	}
}

// P7.4: the least order is the first one of all right ones, and there is one just if nothing is left.
func TestLeast(t *testing.T) {
	for _, g := range append(small(), parts(3, 0, 9)...) {
		all := orders(g.Nodes)
		at := slices.IndexFunc(all, func(l []int) bool { return topo.Right(g, l) })
		l, ok, err := topo.Order(g)
		left, no := topo.Left(g)
		if err != api.OK || no != api.OK || ok != (at >= 0) || ok != (len(left) == 0) || ok && !slices.Equal(l, all[at]) {
			t.Errorf("Order of %v is %v, %v, %d; %v are left, %d", g.Edges, l, ok, err, left, no)
		}
	}
}

// P7.4: the least order is right; to each node that is left an edge leads from one that is left; an edge leads to a deeper node.
func TestLaws(t *testing.T) {
	for _, g := range append(small(), large(25)...) {
		l, ok, _ := topo.Order(g)
		left, _ := topo.Left(g)
		deep, is, _ := topo.Depth(g)
		if ok != is || g.Nodes > 0 && ok != topo.Right(g, l) || ok != (len(left) == 0) {
			t.Errorf("of %d nodes, %d edges, %d of which are left: %v, %v, %v", g.Nodes, len(g.Edges), len(left), ok, is, l)
		}
		for _, v := range left {
			in, _ := graph.In(g, v)
			if !slices.ContainsFunc(in, func(x api.Edge) bool { return slices.Contains(left, x.From) }) {
				t.Errorf("of %d nodes, %d edges %d is left, but none of %v", g.Nodes, len(g.Edges), v, in)
			}
		}
		for _, x := range g.Edges {
			if is && deep[x.From] >= deep[x.To] {
				t.Errorf("of %d nodes the edge %v leads from the depth %d to %d", g.Nodes, x, deep[x.From], deep[x.To])
			}
		}
	}
}
