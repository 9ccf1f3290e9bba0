package scc_test

import (
	"slices"
	"testing"

	"yardarm/api"
	"yardarm/scc"
)

// answers is what all calls tell of a graph.
type answers struct {
	of          []int
	sets        [][]int
	cyclic      bool
	round       api.Bits
	inner, fold api.Graph
}

// told makes all calls.
func told(g api.Graph) answers {
	var a answers
	a.of, _ = scc.Of(g)
	a.sets, _ = scc.Sets(g)
	a.cyclic, _ = scc.Cyclic(g)
	a.round, _ = scc.Round(g)
	a.inner, _ = scc.Inner(g)
	a.fold, _ = scc.Fold(g)
	return a
}

// same tells whether both are the same.
func (a answers) same(b answers) bool {
	return slices.Equal(a.of, b.of) && sameSets(a.sets, b.sets) && a.cyclic == b.cyclic && slices.Equal(a.round.Words, b.round.Words) &&
		a.inner.Nodes == b.inner.Nodes && slices.Equal(a.inner.Edges, b.inner.Edges) && a.fold.Nodes == b.fold.Nodes && slices.Equal(a.fold.Edges, b.fold.Edges)
}

// copied tells the answers anew.
func (a answers) copied() answers {
	b := a
	b.of, b.sets, b.round.Words = slices.Clone(a.of), nil, slices.Clone(a.round.Words)
	for _, set := range a.sets {
		b.sets = append(b.sets, slices.Clone(set))
	}
	b.inner.Edges, b.fold.Edges = slices.Clone(a.inner.Edges), slices.Clone(a.fold.Edges)
	return b
}

// spoil writes over all lists of the answers, and the room behind their ends.
func (a answers) spoil() {
	for _, l := range append(slices.Clone(a.sets), a.of) {
		for i := range l[:cap(l)] {
			l[:cap(l)][i] = 7777
		}
	}
	clear(a.sets[:cap(a.sets)])
	clear(a.round.Words[:cap(a.round.Words)])
	for _, l := range [][]api.Edge{a.inner.Edges, a.fold.Edges} {
		for i := range l[:cap(l)] {
			l[:cap(l)][i] = e(9, 9, 9)
		}
	}
}

// some are graphs whose answers all have something.
func some() []api.Graph {
	return []api.Graph{
		made(6, e(0, 3, 0), e(3, 0, 1), e(1, 5, 2), e(5, 1, 3), e(5, 2, 4), e(2, 4, 4), e(4, 2, 5), e(3, 1, 6)),
		{Nodes: 3, Edges: every(3, 0, 9)},
		row(5, 2),
		{Nodes: 2},
		{},
	}
}

// R3: what is handed in stays as it is, the room behind its end, too, and what is answered is new memory.
func TestKeepsEdges(t *testing.T) {
	for _, g := range some() {
		room := append(slices.Clone(g.Edges), e(7, 7, 7), e(8, 8, 8))
		before := slices.Clone(room)
		for n := range len(g.Edges) + 1 {
			told(api.Graph{Nodes: g.Nodes, Edges: room[:n]}).spoil()
			if !slices.Equal(room, before) {
				t.Fatalf("of %d edges what was handed in is told, or changed: %v", n, room)
			}
		}
	}
}

// R3, R5: the same is answered each time, whatever is done to what was answered.
func TestSameAgain(t *testing.T) {
	for _, g := range some() {
		first := told(g)
		want := first.copied()
		first.spoil()
		for range 3 {
			if again := told(g); !again.same(want) {
				t.Errorf("of %v are told %v, and %v", g.Edges, want, again)
			}
		}
	}
}

// R3: no two lists of Sets share memory.
func TestSetsApart(t *testing.T) {
	for _, g := range some() {
		sets, _ := scc.Sets(g)
		want := modelOf(g).sets
		for i, set := range sets {
			for k := range set[:cap(set)] {
				set[:cap(set)][k] = -1
			}
			for k := i + 1; k < len(sets); k++ {
				if !slices.Equal(sets[k], want[k]) {
					t.Errorf("of %v the component %d changes the component %d: %v", g.Edges, i, k, sets[k])
				}
			}
		}
	}
}
