package graph_test

import (
	"slices"
	"testing"

	"yardarm/api"
	"yardarm/graph"
)

// told calls everything that answers edges, by name.
func told(g api.Graph) map[string][]api.Edge {
	of, _ := graph.Of(g.Nodes, g.Edges)
	out, _ := graph.Out(g, 0)
	in, _ := graph.In(g, 2)
	back, _ := graph.Reverse(g)
	all, _ := graph.Filter(g, func(x api.Edge) bool { return true })
	some, _ := graph.Filter(g, func(x api.Edge) bool { return x.Kind == 0 })
	return map[string][]api.Edge{"Of": of.Edges, "Out": out, "In": in, "Reverse": back.Edges, "Filter, all": all.Edges, "Filter, some": some.Edges}
}

// R3: what is handed in stays as it is, the room behind its end, too, and what is answered is new memory.
func TestKeepsEdges(t *testing.T) {
	room := append(every(3, 0, 9), e(7, 7, 7), e(8, 8, 8))
	before := slices.Clone(room)
	for n := range 13 {
		g := api.Graph{Nodes: 3, Edges: room[:n]}
		graph.Check(g)
		graph.Same(g, api.Graph{Nodes: 3, Edges: room[:12]})
		graph.Starts(g)
		graph.Kinds(g, 0, 1)
		for name, got := range told(g) {
			got = got[:cap(got)]
			for i := range got {
				got[i] = e(9, 9, 9)
			}
			if !slices.Equal(room, before) {
				t.Fatalf("%s of %d edges tells what was handed in, or changes it", name, n)
			}
		}
	}
}

// R3: what Of is handed stays in the order in which it stood.
func TestKeepsRow(t *testing.T) {
	room := []api.Edge{e(2, 1, 0), e(0, 1, 9), e(0, 1, 9), e(0, 1, 0), e(1, 0, 0), e(9, 9, 9)}
	before := slices.Clone(room)
	for n := range len(room) {
		g, err := graph.Of(3, room[:n])
		checkGraph(t, "Of", g, err, 3, made(3, before[:n]...).Edges)
		clear(g.Edges[:cap(g.Edges)])
		if !slices.Equal(room, before) {
			t.Fatalf("of %d edges the row is %v now", n, room)
		}
	}
	graph.Of(3, room)
	if !slices.Equal(room, before) {
		t.Errorf("with what is no edge the row is %v now", room)
	}
}

// R3, R5: no two answers share memory, and the same is answered each time, whatever is done to what was answered.
func TestSameAgain(t *testing.T) {
	for _, g := range []api.Graph{made(3, every(3, 0, 9)...), made(4, e(0, 1, 3), e(0, 2, 0), e(3, 2, 1)), {Nodes: 3}} {
		first := told(g)
		want := map[string][]api.Edge{}
		for name, l := range first {
			want[name] = slices.Clone(l)
		}
		for _, l := range first {
			clear(l[:cap(l)])
		}
		for name, got := range told(g) {
			if !slices.Equal(got, want[name]) {
				t.Errorf("%s of %v is told in two ways", name, g.Edges)
			}
		}
	}
}

// R3: Starts and Kinds tell rows of their own.
func TestOwnRows(t *testing.T) {
	g := made(3, every(3, 0, 9)...)
	for range 2 {
		starts, _ := graph.Starts(g)
		kinds, _ := graph.Kinds(g, 1, 2)
		if !slices.Equal(starts, []int{0, 4, 8, 12}) || !slices.Equal(kinds, []int{0, 9}) {
			t.Errorf("Starts is %v, Kinds %v", starts, kinds)
		}
		clear(starts[:cap(starts)])
		clear(kinds[:cap(kinds)])
	}
}
