package topo_test

import (
	"slices"
	"testing"

	"yardarm/api"
	"yardarm/topo"
)

// told makes all calls that tell lists.
func told(g api.Graph) [][]int {
	l, _, _ := topo.Order(g)
	left, _ := topo.Left(g)
	deep, _, _ := topo.Depth(g)
	return [][]int{l, left, deep}
}

// spoil writes over all lists, and the room behind their ends.
func spoil(lists [][]int) {
	for _, l := range lists {
		for i := range l[:cap(l)] {
			l[:cap(l)][i] = 7777
		}
	}
}

// some are graphs whose answers all have something, with nodes that are left, or without.
func some() []api.Graph {
	return []api.Graph{
		made(6, e(5, 3, 0), e(5, 3, 1), e(3, 1, 2), e(1, 4, 3), e(5, 0, 4), e(4, 2, 4), e(0, 2, 5)),
		made(6, e(5, 3, 0), e(3, 1, 2), e(1, 4, 3), e(4, 3, 3), e(4, 2, 4), e(0, 2, 5)),
		{Nodes: 3, Edges: every(3, 0, 9)},
		row(2),
		{Nodes: 2},
		{},
	}
}

// R3: what is handed in stays as it is, the room behind its end, too, and what is answered is new memory.
func TestKeepsEdges(t *testing.T) {
	for _, g := range some() {
		room := append(slices.Clone(g.Edges), e(7, 7, 7), e(8, 8, 8))
		before := slices.Clone(room)
		for n := range len(g.Edges) + 1 {
			spoil(told(api.Graph{Nodes: g.Nodes, Edges: room[:n]}))
			if !slices.Equal(room, before) {
				t.Fatalf("of %d edges what was handed in is told, or changed: %v", n, room)
			}
		}
	}
}

// R3: Right changes neither the edges nor the list.
func TestRightKeeps(t *testing.T) {
	for _, g := range some() {
		edges := append(slices.Clone(g.Edges), e(7, 7, 7))
		list := append(modelOf(g).taken, modelOf(g).left...)
		list = append(list, 8888, 9999)
		wantEdges, wantList := slices.Clone(edges), slices.Clone(list)
		for n := range len(list) + 1 {
			topo.Right(api.Graph{Nodes: g.Nodes, Edges: edges[:len(g.Edges)]}, list[:n])
			if !slices.Equal(edges, wantEdges) || !slices.Equal(list, wantList) {
				t.Fatalf("with %d nodes they are now %v, %v", n, edges, list)
			}
		}
	}
}

// R3, R5: the same is answered each time, whatever is done to what was answered.
func TestSameAgain(t *testing.T) {
	for _, g := range some() {
		first := told(g)
		var want [][]int
		for _, l := range first {
			want = append(want, slices.Clone(l))
		}
		list := append(modelOf(g).taken, modelOf(g).left...)
		is := topo.Right(g, list)
		spoil(first)
		for range 3 {
			if again := told(g); !slices.EqualFunc(again, want, slices.Equal[[]int]) || topo.Right(g, list) != is {
				t.Errorf("of %v are told %v, and %v", g.Edges, want, again)
			}
		}
	}
}
