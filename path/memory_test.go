package path_test

import (
	"slices"
	"testing"

	"yardarm/api"
	"yardarm/path"
)

// told makes all calls that tell lists, of each node.
func told(g api.Graph) [][]int {
	cycle, _ := path.Cycle(g)
	all := [][]int{cycle}
	for v := range g.Nodes {
		far, _ := path.Far(g, v)
		through, _ := path.Through(g, v)
		all = append(all, far, through)
		for to := range g.Nodes {
			way, _ := path.Shortest(g, v, to)
			all = append(all, way)
		}
	}
	return all
}

// spoil writes over all lists, and the room behind their ends.
func spoil(lists [][]int) {
	for _, l := range lists {
		for i := range l[:cap(l)] {
			l[:cap(l)][i] = 7777
		}
	}
}

// some are graphs whose answers all have something, and some that have little.
func some() []api.Graph {
	return []api.Graph{
		made(6, e(0, 3, 0), e(3, 0, 1), e(1, 5, 2), e(5, 1, 3), e(5, 2, 4), e(2, 4, 4), e(4, 2, 5), e(3, 1, 6)),
		made(6, e(0, 1, 0), e(1, 2, 0), e(2, 3, 0), e(3, 4, 0), e(4, 5, 0), e(5, 0, 0), e(1, 4, 9), e(2, 5, 9)),
		{Nodes: 3, Edges: every(3, 0, 9)},
		row(5, 2),
		{Nodes: 2},
		{},
	}
}

// R3: what is handed in stays as it is, the room behind its end, too, and what is answered is new memory.
func TestKeepsEdges(t *testing.T) {
	for _, g := range some() {
		room := append(slices.Clone(g.Edges), e(7, 7, 7), e(8, 8, 8))
		before := slices.Clone(room)
		for n := range len(g.Edges) + 1 {
			spoil(told(api.Graph{Nodes: g.Nodes, Edges: room[:n]}))
			if !slices.Equal(room, before) {
				t.Fatalf("of %d edges what was handed in is told, or changed: %v", n, room)
			}
		}
	}
}

// R3: Is changes neither the edges nor the list.
func TestIsKeeps(t *testing.T) {
	for _, g := range some() {
		edges := append(slices.Clone(g.Edges), e(7, 7, 7))
		list := append(slices.Concat(told(g)...), 8888, 9999)
		wantEdges, wantList := slices.Clone(edges), slices.Clone(list)
		for n := range len(list) + 1 {
			path.Is(api.Graph{Nodes: g.Nodes, Edges: edges[:len(g.Edges)]}, list[:n], n%2 == 0)
			if !slices.Equal(edges, wantEdges) || !slices.Equal(list, wantList) {
				t.Fatalf("with %d nodes they are now %v, %v", n, edges, list)
			}
		}
	}
}

// R3, R5: the same is answered each time, whatever is done to what was answered.
func TestSameAgain(t *testing.T) {
	for _, g := range some() {
		first := told(g)
		var want [][]int
		for _, l := range first {
			want = append(want, slices.Clone(l))
		}
		spoil(first)
		for range 3 {
			if again := told(g); !slices.EqualFunc(again, want, slices.Equal[[]int]) {
				t.Errorf("of %v are told %v, and %v", g.Edges, want, again)
			}
		}
	}
}
