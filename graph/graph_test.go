package graph_test

import (
	"math/rand"
	"slices"
	"testing"

	"yardarm/api"
	"yardarm/graph"
)

// P5.1 to P5.3: the chapter's examples.
func TestExamples(t *testing.T) {
	l := []api.Edge{e(0, 1, 0), e(0, 1, 2), e(1, 2, 1)}
	g, err := graph.Of(3, []api.Edge{l[1], l[2], l[0], l[1]})
	checkGraph(t, "Of", g, err, 3, l)
	if out, err := graph.Out(g, 0); err != api.OK || !slices.Equal(out, l[:2]) {
		t.Errorf("Out is %v, %d", out, err)
	}
	if in, err := graph.In(g, 2); err != api.OK || !slices.Equal(in, l[2:]) {
		t.Errorf("In is %v, %d", in, err)
	}
	if starts, err := graph.Starts(g); err != api.OK || !slices.Equal(starts, []int{0, 2, 3, 3}) {
		t.Errorf("Starts is %v, %d", starts, err)
	}
	if kinds, err := graph.Kinds(g, 0, 1); err != api.OK || !slices.Equal(kinds, []int{0, 2}) {
		t.Errorf("Kinds is %v, %d", kinds, err)
	}
	back, err := graph.Reverse(g)
	checkGraph(t, "Reverse", back, err, 3, []api.Edge{e(1, 0, 0), e(1, 0, 2), e(2, 1, 1)})
	kept, err := graph.Filter(g, func(x api.Edge) bool { return x.Kind == 0 })
	checkGraph(t, "Filter", kept, err, 3, l[:1])
}

// P5.1: what may be, up to the greatest numbers.
func TestCheck(t *testing.T) {
	for _, g := range append(small(), large(60)...) {
		if err := graph.Check(g); err != api.OK {
			t.Errorf("Check of %d nodes, %d edges is %d", g.Nodes, len(g.Edges), err)
		}
	}
	for _, l := range [][]api.Edge{nil, {}, {e(0, 299, 9)}, {e(299, 0, 0)}, {e(298, 299, 0), e(299, 298, 9)}} {
		if err := graph.Check(api.Graph{Nodes: api.MaxNodes, Edges: l}); err != api.OK {
			t.Errorf("Check of %v is %d", l, err)
		}
	}
}

// P5.1: what may not be: nodes, edges, their order, one twice, one too many.
func TestCheckWrong(t *testing.T) {
	for _, g := range wrong() {
		if err := graph.Check(g); err != api.ErrGraph {
			t.Errorf("Check of %d nodes, %d edges %v is %d", g.Nodes, len(g.Edges), g.Edges[:min(len(g.Edges), 4)], err)
		}
	}
	if api.ErrGraph != 150 || api.ErrArg != 2 || api.ErrFull != 6 {
		t.Errorf("the errors are %d, %d, %d", api.ErrGraph, api.ErrArg, api.ErrFull)
	}
}

// P5.1: of all rows of three edges those alone may be that rise, whatever the first one that is unlike.
func TestCheckOrder(t *testing.T) {
	l := every(3, 0, 1)
	for _, a := range l {
		for _, b := range l {
			for _, c := range l {
				want := api.ErrGraph
				if compare(a, b) < 0 && compare(b, c) < 0 {
					want = api.OK
				}
				if err := graph.Check(api.Graph{Nodes: 3, Edges: []api.Edge{a, b, c}}); err != want {
					t.Errorf("Check of %v, %v, %v is %d", a, b, c, err)
				}
			}
		}
	}
}

// P5.1: the same are those alone that have the same nodes and edges; what may not be is the same as itself, too.
func TestSame(t *testing.T) {
	all := append(small()[:80], wrong()...)
	for i, a := range all {
		for k, b := range all {
			want := a.Nodes == b.Nodes && len(a.Edges) == len(b.Edges)
			for at := 0; want && at < len(a.Edges); at++ {
				x, y := a.Edges[at], b.Edges[at]
				want = x.From == y.From && x.To == y.To && x.Kind == y.Kind
			}
			if i == k && !want {
				t.Fatalf("the model says that %v is not itself", a)
			}
			b.Edges = slices.Clone(b.Edges)
			if same := graph.Same(a, b); same != want {
				t.Errorf("Same(%v, %v) is %v", a.Nodes, b.Nodes, same)
			}
		}
	}
	if !graph.Same(api.Graph{Nodes: 2}, api.Graph{Nodes: 2, Edges: []api.Edge{}}) {
		t.Errorf("without edges they are not the same")
	}
}

// P5.1: edges in any order, and more than once, are put in order.
func TestOf(t *testing.T) {
	r := rand.New(rand.NewSource(6))
	for _, g := range append(small(), large(60)...) {
		l := append(slices.Clone(g.Edges), g.Edges[:len(g.Edges)/2]...)
		r.Shuffle(len(l), func(i, k int) { l[i], l[k] = l[k], l[i] })
		got, err := graph.Of(g.Nodes, l)
		checkGraph(t, "Of", got, err, g.Nodes, g.Edges)
	}
	got, err := graph.Of(0, nil)
	checkGraph(t, "Of none", got, err, 0, nil)
}

// P5.1: no such number of nodes; one that is no edge is enough, wherever it stands.
func TestOfArg(t *testing.T) {
	for _, n := range outside {
		for _, l := range [][]api.Edge{nil, {}, {e(0, 1, 0)}, {e(0, 0, 0)}} {
			if n != api.MaxNodes {
				got, err := graph.Of(n, l)
				checkNone(t, "Of no such nodes", got, err, api.ErrArg)
			}
		}
	}
	for _, nodes := range []int{2, 3, api.MaxNodes} {
		for _, no := range noEdges(nodes) {
			for _, l := range [][]api.Edge{{no}, {no, e(0, 1, 0)}, {e(1, 0, 9), no}, {e(1, 0, 0), no, e(0, 1, 0)}} {
				got, err := graph.Of(nodes, l)
				checkNone(t, "Of no edge", got, err, api.ErrArg)
			}
		}
	}
	for nodes := range 2 {
		got, err := graph.Of(nodes, []api.Edge{e(0, 1, 0)})
		checkNone(t, "Of too few nodes", got, err, api.ErrArg)
	}
}

// P5.1: as many edges as there may be, each counted once; one more is too many, but what is no edge is told ahead of that.
func TestOfFull(t *testing.T) {
	l := every(api.MaxNodes, 0, 9)
	full, more := l[:api.MaxEdges], l[:api.MaxEdges+1]
	twice := slices.Concat(full, full, full[:7])
	slices.Reverse(twice)
	got, err := graph.Of(api.MaxNodes, twice)
	checkGraph(t, "Of as many as may be", got, err, api.MaxNodes, full)
	for _, many := range [][]api.Edge{more, slices.Concat(twice, more), l, every(201, 4)} {
		got, err := graph.Of(api.MaxNodes, many)
		checkNone(t, "Of too many", got, err, api.ErrFull)
	}
	for _, no := range []api.Edge{{}, e(0, api.MaxNodes, 0), e(0, 1, 10)} {
		for _, many := range [][]api.Edge{slices.Concat(l, []api.Edge{no}), slices.Concat([]api.Edge{no}, l)} {
			got, err := graph.Of(api.MaxNodes, many)
			checkNone(t, "Of too many, and no edge", got, err, api.ErrArg)
		}
	}
	got, err = graph.Of(api.MaxNodes+1, l)
	checkNone(t, "Of too many of both", got, err, api.ErrArg)
}

// P5.2: what leads out of each node, and into it, and how many edges are From nodes below it.
func TestOutIn(t *testing.T) {
	for _, g := range append(small(), large(6)...) {
		starts, err := graph.Starts(g)
		if err != api.OK || len(starts) != g.Nodes+1 {
			t.Fatalf("Starts of %d nodes tells %d numbers, %d", g.Nodes, len(starts), err)
		}
		for v := range g.Nodes + 1 {
			if below := picked(g.Edges, func(x api.Edge) bool { return x.From < v }); starts[v] != len(below) {
				t.Errorf("Starts at %d is %d, not %d", v, starts[v], len(below))
			}
		}
		for v := range g.Nodes {
			out, err := graph.Out(g, v)
			if want := picked(g.Edges, func(x api.Edge) bool { return x.From == v }); err != api.OK || !slices.Equal(out, want) {
				t.Errorf("Out(%d) is %v, %d; not %v", v, out, err, want)
			}
			in, err := graph.In(g, v)
			if want := picked(g.Edges, func(x api.Edge) bool { return x.To == v }); err != api.OK || !slices.Equal(in, want) {
				t.Errorf("In(%d) is %v, %d; not %v", v, in, err, want)
			}
		}
	}
}

// P5.2: of each two nodes, and of a node and itself.
func TestKinds(t *testing.T) {
	graphs := append(small(), made(4, append(every(4, 0, 2, 3, 7, 9)[20:], every(2, 0, 1, 2, 3, 4, 5, 6, 7, 8, 9)...)...))
	graphs = append(graphs, made(5, anyEdges(rand.New(rand.NewSource(7)), 5, 90)...))
	for _, g := range graphs {
		for from := range g.Nodes {
			for to := range g.Nodes {
				var want []int
				for kind := range api.MaxKind + 1 {
					if slices.Contains(g.Edges, e(from, to, kind)) {
						want = append(want, kind)
					}
				}
				if got, err := graph.Kinds(g, from, to); err != api.OK || !slices.Equal(got, want) {
					t.Errorf("Kinds(%d, %d) of %v is %v, %d", from, to, g.Edges, got, err)
				}
			}
		}
	}
}

// P5.2: what is no node.
func TestNoNode(t *testing.T) {
	for _, g := range append(small()[:70], large(3)...) {
		for _, v := range append([]int{g.Nodes, g.Nodes + 1}, outside...) {
			if l, err := graph.Out(g, v); err != api.ErrArg || len(l) != 0 {
				t.Errorf("Out(%d) of %d nodes is %v, %d", v, g.Nodes, l, err)
			}
			if l, err := graph.In(g, v); err != api.ErrArg || len(l) != 0 {
				t.Errorf("In(%d) of %d nodes is %v, %d", v, g.Nodes, l, err)
			}
			for _, p := range [][2]int{{0, v}, {v, 0}, {v, v}} {
				if l, err := graph.Kinds(g, p[0], p[1]); err != api.ErrArg || len(l) != 0 {
					t.Errorf("Kinds(%v) of %d nodes is %v, %d", p, g.Nodes, l, err)
				}
			}
		}
	}
}

// P5.3: all edges lead back, of their kinds.
func TestReverse(t *testing.T) {
	for _, g := range append(small(), large(60)...) {
		got, err := graph.Reverse(g)
		checkGraph(t, "Reverse", got, err, g.Nodes, turned(g.Edges))
	}
}

// P5.3: those stay that keep says true of; it is asked of each edge once, in order.
func TestFilter(t *testing.T) {
	asks := []func(x api.Edge) bool{
		func(x api.Edge) bool { return true },
		func(x api.Edge) bool { return false },
		func(x api.Edge) bool { return x.Kind == 0 },
		func(x api.Edge) bool { return x.From < x.To },
		func(x api.Edge) bool { return x.To != 1 },
	}
	for _, g := range append(small(), large(40)...) {
		for _, ask := range asks {
			var met []api.Edge
			got, err := graph.Filter(g, func(x api.Edge) bool {
				met = append(met, x)
				return ask(x)
			})
			checkGraph(t, "Filter", got, err, g.Nodes, picked(g.Edges, ask))
			if !slices.Equal(met, g.Edges) {
				t.Errorf("of %v Filter asks %v", g.Edges, met)
			}
		}
	}
}

// P5.3: what keep tells need not hang on the edge alone.
func TestFilterEverySecond(t *testing.T) {
	for _, g := range append(small()[:70], large(3)...) {
		var want []api.Edge
		for at := 0; at < len(g.Edges); at += 2 {
			want = append(want, g.Edges[at])
		}
		at := -1
		got, err := graph.Filter(g, func(x api.Edge) bool { at++; return at%2 == 0 })
		checkGraph(t, "Filter of every second one", got, err, g.Nodes, want)
	}
}

// P5.3, P5.4: whatever keep does to the list, it is asked of the edges that were handed in, and what comes may be.
func TestFilterWritten(t *testing.T) {
	g := api.Graph{Nodes: 3, Edges: every(3, 0, 9)}
	var met []api.Edge
	got, err := graph.Filter(g, func(x api.Edge) bool {
		met = append(met, x)
		clear(g.Edges)
		return x.Kind == 9
	})
	checkGraph(t, "Filter", got, err, 3, every(3, 9))
	if !slices.Equal(met, every(3, 0, 9)) {
		t.Errorf("Filter asks %v", met)
	}
}

// What may not be: all calls tell that ahead of all else, and nothing is asked.
func TestWrong(t *testing.T) {
	for _, g := range wrong() {
		for _, v := range []int{0, 2, -1, api.MaxNodes + 1} {
			out, no1 := graph.Out(g, v)
			in, no2 := graph.In(g, v)
			kinds, no3 := graph.Kinds(g, v, 0)
			kinds2, no4 := graph.Kinds(g, 0, v)
			starts, no5 := graph.Starts(g)
			if n := len(out) + len(in) + len(kinds) + len(kinds2) + len(starts); n != 0 {
				t.Errorf("of %d nodes, %d edges, which may not be, %d are told", g.Nodes, len(g.Edges), n)
			}
			for i, no := range []api.Errno{no1, no2, no3, no4, no5} {
				if no != api.ErrGraph {
					t.Errorf("call %d of %d nodes, %d edges is %d", i, g.Nodes, len(g.Edges), no)
				}
			}
		}
		back, err := graph.Reverse(g)
		checkNone(t, "Reverse", back, err, api.ErrGraph)
		kept, err := graph.Filter(g, func(x api.Edge) bool {
			t.Errorf("Filter asks %v of what may not be", x)
			return true
		})
		checkNone(t, "Filter", kept, err, api.ErrGraph)
	}
}

// P5.4: Reverse of Reverse is the graph; Out of the one is In of the other one, turned; what stands between two of Starts is Out; Of of a graph's edges is the graph.
func TestLaws(t *testing.T) {
	r := rand.New(rand.NewSource(8))
	for _, g := range append(small(), large(6)...) {
		back, _ := graph.Reverse(g)
		again, err := graph.Reverse(back)
		checkGraph(t, "Reverse of Reverse", again, err, g.Nodes, g.Edges)
		if !graph.Same(again, g) {
			t.Errorf("Reverse of Reverse of %v is not the same", g.Edges)
		}
		starts, _ := graph.Starts(g)
		for v := range g.Nodes {
			out, _ := graph.Out(g, v)
			in, _ := graph.In(back, v)
			if !slices.Equal(turned(in), out) || !slices.Equal(g.Edges[starts[v]:starts[v+1]], out) {
				t.Errorf("Out(%d) is %v, In of Reverse %v, Starts %v", v, out, in, starts)
			}
		}
		l := slices.Clone(g.Edges)
		r.Shuffle(len(l), func(i, k int) { l[i], l[k] = l[k], l[i] })
		of, err := graph.Of(g.Nodes, l)
		checkGraph(t, "Of of a graph's edges", of, err, g.Nodes, g.Edges)
	}
}
