package path_test

import (
	"math"
	"math/rand"
	"slices"
	"testing"

	"yardarm/api"
	"yardarm/path"
	"yardarm/scc"
)

// P8.1 to P8.4: the chapter's examples.
func TestExamples(t *testing.T) {
	g := made(5, e(0, 1, 0), e(1, 2, 0), e(2, 0, 0), e(1, 3, 0), e(3, 0, 0), e(0, 3, 0))
	l, err := path.Far(g, 1)
	checkRow(t, "Far(1)", g, l, err, []int{2, 0, 1, 1, -1})
	l, err = path.Shortest(g, 1, 0)
	checkRow(t, "Shortest(1, 0)", g, l, err, []int{1, 2, 0})
	l, err = path.Shortest(g, 0, 4)
	checkRow(t, "Shortest(0, 4)", g, l, err, nil)
	l, err = path.Shortest(g, 4, 4)
	checkRow(t, "Shortest(4, 4)", g, l, err, []int{4})
	l, err = path.Cycle(g)
	checkRow(t, "Cycle", g, l, err, []int{0, 3})
	l, err = path.Through(g, 2)
	checkRow(t, "Through(2)", g, l, err, []int{2, 0, 1})
	l, err = path.Through(g, 4)
	checkRow(t, "Through(4)", g, l, err, nil)
	if !path.Is(g, []int{1, 3, 0}, false) || path.Is(g, []int{1, 0}, false) || !path.Is(g, []int{0, 3}, true) || path.Is(g, []int{3, 0}, true) {
		t.Errorf("Is(1 3 0) is %v, Is(1 0) %v, Is(0 3, round) %v, Is(3 0, round) %v",
			path.Is(g, []int{1, 3, 0}, false), path.Is(g, []int{1, 0}, false), path.Is(g, []int{0, 3}, true), path.Is(g, []int{3, 0}, true))
	}
}

// P8.1 to P8.4: without nodes there is no way, and nobody to ask for; a node alone is the way to itself, and no cycle.
func TestFewNodes(t *testing.T) {
	g := api.Graph{Edges: []api.Edge{}}
	_, no1 := path.Far(g, 0)
	_, no2 := path.Shortest(g, 0, 0)
	_, no3 := path.Through(g, 0)
	if no1 != api.ErrArg || no2 != api.ErrArg || no3 != api.ErrArg {
		t.Errorf("without nodes are told %d, %d, %d", no1, no2, no3)
	}
	l, err := path.Cycle(g)
	checkRow(t, "Cycle", g, l, err, nil)
	if path.Is(g, nil, false) || path.Is(g, []int{}, true) || path.Is(g, []int{0}, false) {
		t.Error("without nodes there is a way, or a cycle")
	}
	g = api.Graph{Nodes: 1}
	l, err = path.Far(g, 0)
	checkRow(t, "Far(0)", g, l, err, []int{0})
	l, err = path.Shortest(g, 0, 0)
	checkRow(t, "Shortest(0, 0)", g, l, err, []int{0})
	l, err = path.Through(g, 0)
	checkRow(t, "Through(0)", g, l, err, nil)
	l, err = path.Cycle(g)
	checkRow(t, "Cycle", g, l, err, nil)
	if path.Is(g, nil, false) || path.Is(g, nil, true) || !path.Is(g, []int{0}, false) || path.Is(g, []int{0}, true) || path.Is(g, []int{0, 0}, false) {
		t.Error("of a node alone Is is wrong")
	}
}

// P8.1, P8.2: how far all nodes are from one another, and the least shortest ways there.
func TestFarShortest(t *testing.T) {
	r := rand.New(rand.NewSource(9))
	for _, g := range append(small(), large(20)...) {
		m := modelOf(g)
		// Of more nodes some are enough; all are asked for of few.
		for _, from := range r.Perm(g.Nodes)[:min(g.Nodes, 12)] {
			l, err := path.Far(g, from)
			checkRow(t, "Far", g, l, err, m.far[from])
			for _, to := range r.Perm(g.Nodes)[:min(g.Nodes, 12)] {
				l, err = path.Shortest(g, from, to)
				checkRow(t, "Shortest", g, l, err, m.shortest(from, to))
			}
		}
	}
}

// P8.3: the least shortest cycle, and of each node the least shortest one that has it.
func TestCycleThrough(t *testing.T) {
	r := rand.New(rand.NewSource(10))
	for _, g := range append(small(), large(20)...) {
		m := modelOf(g)
		l, err := path.Cycle(g)
		checkRow(t, "Cycle", g, l, err, m.cycle())
		for _, v := range r.Perm(g.Nodes)[:min(g.Nodes, 40)] {
			l, err = path.Through(g, v)
			checkRow(t, "Through", g, l, err, m.through(v))
		}
	}
}

// P8.2: the lesser way is the one that is less where two are first unlike, even if it goes over greater nodes later on.
func TestShortestLeast(t *testing.T) {
	g := made(10, e(0, 2, 0), e(2, 3, 0), e(3, 9, 0), e(0, 1, 9), e(1, 8, 0), e(8, 9, 0), e(1, 7, 1), e(7, 9, 3), e(7, 6, 0), e(6, 9, 0), e(9, 4, 0))
	l, err := path.Shortest(g, 0, 9)
	checkRow(t, "Shortest(0, 9)", g, l, err, []int{0, 1, 7, 9})
	l, err = path.Shortest(g, 0, 4)
	checkRow(t, "Shortest(0, 4)", g, l, err, []int{0, 1, 7, 9, 4})
	l, err = path.Shortest(g, 4, 0)
	checkRow(t, "Shortest(4, 0)", g, l, err, nil)
}

// P8.1 to P8.3: an edge of many kinds is as long as one of one kind.
func TestKinds(t *testing.T) {
	l := []api.Edge{e(0, 1, 4), e(1, 2, 4), e(2, 0, 4)}
	for kind := range api.MaxKind + 1 {
		l = append(l, e(0, 1, kind))
	}
	g := made(3, l...)
	far, err := path.Far(g, 0)
	checkRow(t, "Far(0)", g, far, err, []int{0, 1, 2})
	way, err := path.Shortest(g, 0, 2)
	checkRow(t, "Shortest(0, 2)", g, way, err, []int{0, 1, 2})
	way, err = path.Cycle(g)
	checkRow(t, "Cycle", g, way, err, []int{0, 1, 2})
	way, err = path.Through(g, 1)
	checkRow(t, "Through(1)", g, way, err, []int{1, 2, 0})
}

// P8.3: a shorter cycle goes ahead of a lesser one; of equally long ones the least goes ahead, from its least node on.
func TestCycleLeast(t *testing.T) {
	g := made(9, e(0, 1, 0), e(1, 2, 0), e(2, 0, 0), e(8, 7, 0), e(7, 8, 0), e(2, 3, 0), e(3, 8, 0))
	l, err := path.Cycle(g)
	checkRow(t, "Cycle", g, l, err, []int{7, 8})
	l, err = path.Through(g, 8)
	checkRow(t, "Through(8)", g, l, err, []int{8, 7})
	l, err = path.Through(g, 2)
	checkRow(t, "Through(2)", g, l, err, []int{2, 0, 1})
	l, err = path.Through(g, 3)
	checkRow(t, "Through(3)", g, l, err, nil)
	g = made(9, e(5, 1, 0), e(1, 6, 0), e(6, 5, 0), e(1, 8, 0), e(8, 5, 0), e(2, 0, 0), e(0, 7, 0), e(7, 2, 0), e(7, 3, 0), e(3, 0, 0))
	l, err = path.Cycle(g)
	checkRow(t, "Cycle", g, l, err, []int{0, 7, 2})
	l, err = path.Through(g, 5)
	checkRow(t, "Through(5)", g, l, err, []int{5, 1, 6})
	l, err = path.Through(g, 3)
	checkRow(t, "Through(3)", g, l, err, []int{3, 0, 7})
}

// P8.4: of all lists those alone are ways, or cycles, that are such by the chapter's words.
func TestIs(t *testing.T) {
	for _, g := range slices.Concat(parts(0), parts(1, 0), parts(2, 0, 9), parts(3, 4)) {
		m := modelOf(g)
		for _, l := range lists(g.Nodes+1, -1, g.Nodes) {
			for _, round := range []bool{false, true} {
				if is := path.Is(g, l, round); is != m.is(l, round) {
					t.Errorf("Is(%v, %v, %v) is %v", g.Edges, l, round, is)
				}
			}
		}
	}
	all := lists(4, 0, 3)
	for _, g := range parts(4, 4)[:1<<10] {
		m := modelOf(g)
		for _, l := range all {
			if path.Is(g, l, false) != m.is(l, false) || path.Is(g, l, true) != m.is(l, true) {
				t.Errorf("Is(%v, %v) is %v, %v if round", g.Edges, l, path.Is(g, l, false), path.Is(g, l, true))
			}
		}
	}
}

// P8.4: of large graphs, ways and cycles, and what comes of them if a node is changed, or they begin elsewhere.
func TestIsLarge(t *testing.T) {
	r := rand.New(rand.NewSource(11))
	check := func(g api.Graph, m model, l []int) {
		if path.Is(g, l, false) != m.is(l, false) || path.Is(g, l, true) != m.is(l, true) {
			t.Errorf("of %d nodes, %d edges Is(%v) is %v, %v if round", g.Nodes, len(g.Edges), l, path.Is(g, l, false), path.Is(g, l, true))
		}
	}
	for _, g := range large(10) {
		m := modelOf(g)
		cycle, _ := path.Cycle(g)
		for range 10 {
			way, _ := path.Shortest(g, r.Intn(g.Nodes), r.Intn(g.Nodes))
			through, _ := path.Through(g, r.Intn(g.Nodes))
			for _, l := range [][]int{way, through, cycle} {
				check(g, m, l)
				if len(l) == 0 {
					continue
				}
				at := r.Intn(len(l))
				check(g, m, slices.Concat(l[at:], l[:at]))
				check(g, m, append(slices.Clone(l), l[at]))
				check(g, m, slices.Delete(slices.Clone(l), at, at+1))
				other := slices.Clone(l)
				other[at] = r.Intn(g.Nodes+2) - 1
				check(g, m, other)
			}
		}
	}
}

// P8.4: the longest way and the longest cycle are such; one node that is none, wherever it stands, is enough that they are not.
func TestIsLongest(t *testing.T) {
	g := row(api.MaxNodes, 3)
	ring := made(g.Nodes, append(g.Edges, e(g.Nodes-1, 0, 0))...)
	l := make([]int, g.Nodes)
	for v := range l {
		l[v] = v
	}
	if !path.Is(g, l, false) || path.Is(g, l, true) || !path.Is(ring, l, false) || !path.Is(ring, l, true) {
		t.Errorf("the longest way is %v, a cycle %v; the longest cycle is %v, a way %v", path.Is(g, l, false), path.Is(g, l, true), path.Is(ring, l, true), path.Is(ring, l, false))
	}
	for at := range l {
		for _, n := range append(outside, g.Nodes) {
			no := slices.Clone(l)
			if no[at] = n; path.Is(ring, no, false) || path.Is(ring, no, true) {
				t.Errorf("with %d at %d it is one", n, at)
			}
		}
	}
	if path.Is(ring, append(l, 0), false) || path.Is(ring, append(l, l...), true) || path.Is(ring, append(l, l...), false) {
		t.Error("the longest cycle twice is one")
	}
}

// checkNone checks that a call told this error, and nothing else.
func checkNone(t *testing.T, call string, g api.Graph, got []int, err, want api.Errno) {
	t.Helper()
	if err != want || len(got) != 0 {
		t.Errorf("%s of %d nodes, %d edges is %v, %d; not %d", call, g.Nodes, len(g.Edges), got, err, want)
	}
}

// What may not be goes ahead of what is no node; nothing is told of it, and nothing is a way in it.
func TestWrong(t *testing.T) {
	for _, g := range wrong() {
		for _, v := range []int{0, 1, 2, -1, 3, math.MinInt, math.MaxInt} {
			l, err := path.Far(g, v)
			checkNone(t, "Far", g, l, err, api.ErrGraph)
			l, err = path.Shortest(g, v, 0)
			checkNone(t, "Shortest", g, l, err, api.ErrGraph)
			l, err = path.Shortest(g, 0, v)
			checkNone(t, "Shortest", g, l, err, api.ErrGraph)
			l, err = path.Through(g, v)
			checkNone(t, "Through", g, l, err, api.ErrGraph)
		}
		l, err := path.Cycle(g)
		checkNone(t, "Cycle", g, l, err, api.ErrGraph)
		for _, l := range [][]int{nil, {0}, {1}, {0, 1}, {0, 1, 2}, {1, 0}, {-1}} {
			if path.Is(g, l, false) || path.Is(g, l, true) {
				t.Errorf("in %d nodes, %d edges, which may not be, %v is a way, or a cycle", g.Nodes, len(g.Edges), l)
			}
		}
	}
}

// P8.1 to P8.3: what is no node goes ahead of that there is no way.
func TestNoNode(t *testing.T) {
	for _, g := range []api.Graph{{}, {Nodes: 1}, {Nodes: 3, Edges: every(3, 0)}, row(5, 1), {Nodes: api.MaxNodes}} {
		for _, v := range append(outside, g.Nodes, g.Nodes+1) {
			l, err := path.Far(g, v)
			checkNone(t, "Far", g, l, err, api.ErrArg)
			l, err = path.Through(g, v)
			checkNone(t, "Through", g, l, err, api.ErrArg)
			l, err = path.Shortest(g, v, v)
			checkNone(t, "Shortest", g, l, err, api.ErrArg)
			for other := range min(g.Nodes, 3) {
				l, err = path.Shortest(g, v, other)
				checkNone(t, "Shortest", g, l, err, api.ErrArg)
				l, err = path.Shortest(g, other, v)
				checkNone(t, "Shortest", g, l, err, api.ErrArg)
			}
		}
	}
}

// P8.2 to P8.4: of all lists that are ways, or cycles, the least of the shortest ones are told.
func TestLeast(t *testing.T) {
	all := lists(4, 0, 3)
	for _, g := range append(small()[:200], parts(4, 4)[1000:1800]...) {
		ways := map[[2]int][]int{}
		var cycle []int
		for _, l := range all {
			if path.Is(g, l, false) {
				ends := [2]int{l[0], l[len(l)-1]}
				ways[ends] = better(ways[ends], l)
			}
			if path.Is(g, l, true) {
				cycle = better(cycle, l)
			}
		}
		for from := range g.Nodes {
			for to := range g.Nodes {
				l, err := path.Shortest(g, from, to)
				checkRow(t, "Shortest", g, l, err, ways[[2]int{from, to}])
			}
		}
		l, err := path.Cycle(g)
		checkRow(t, "Cycle", g, l, err, cycle)
	}
}

// P8.5: what Shortest tells is a way, and each beginning of it is a shortest one.
func TestLawShortest(t *testing.T) {
	r := rand.New(rand.NewSource(12))
	for _, g := range append(small(), large(10)...) {
		for _, from := range r.Perm(g.Nodes)[:min(g.Nodes, 5)] {
			far, _ := path.Far(g, from)
			for _, to := range r.Perm(g.Nodes)[:min(g.Nodes, 5)] {
				l, err := path.Shortest(g, from, to)
				if (err == api.OK) != (far[to] >= 0) || err == api.OK && !path.Is(g, l, false) {
					t.Errorf("of %d nodes, %d edges Shortest(%d, %d), %d far, is %v, %d", g.Nodes, len(g.Edges), from, to, far[to], l, err)
				}
				for at, v := range l {
					if far[v] != at {
						t.Errorf("of %d nodes, %d edges %d is %d far from %d, and at %d in %v", g.Nodes, len(g.Edges), v, far[v], from, at, l)
					}
				}
			}
		}
	}
}

// P8.5: what Cycle tells is one, as long as the shortest of Through of all nodes, and there is one just if the graph is cyclic.
func TestLawCycle(t *testing.T) {
	for _, g := range append(small(), large(10)...) {
		l, err := path.Cycle(g)
		cyclic, _ := scc.Cyclic(g)
		if cyclic != (err == api.OK) || cyclic != path.Is(g, l, true) {
			t.Errorf("of %d nodes, %d edges Cycle is %v, %d; cyclic is %v", g.Nodes, len(g.Edges), l, err, cyclic)
		}
		var best []int
		for v := range g.Nodes {
			if through, no := path.Through(g, v); no == api.OK {
				best = better(best, through)
			}
		}
		if len(best) != len(l) {
			t.Errorf("of %d nodes, %d edges Cycle is %v, but Through %v", g.Nodes, len(g.Edges), l, best)
		}
	}
}

// P8.5: an edge more makes no way longer.
func TestLawMore(t *testing.T) {
	r := rand.New(rand.NewSource(13))
	for _, g := range append(small(), large(10)...) {
		if g.Nodes < 2 || len(g.Edges) >= api.MaxEdges {
			continue
		}
		for range 3 {
			a, step := r.Intn(g.Nodes), 1+r.Intn(g.Nodes-1)
			more := made(g.Nodes, append(slices.Clone(g.Edges), e(a, (a+step)%g.Nodes, r.Intn(10)))...)
			from := r.Intn(g.Nodes)
			before, _ := path.Far(g, from)
			after, err := path.Far(more, from)
			for v := range before {
				if err != api.OK || before[v] >= 0 && (after[v] < 0 || after[v] > before[v]) {
					t.Errorf("of %d nodes, %d edges %d is %d far from %d, with one more %d", g.Nodes, len(g.Edges), v, before[v], from, after[v])
				}
			}
		}
	}
}
