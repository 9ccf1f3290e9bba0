package order_test

import (
	"math"
	"math/bits"
	"math/rand"
	"slices"
	"strings"
	"testing"

	"yardarm/api"
	"yardarm/order"
)

// checkSort checks that l is sorted as it should be.
func checkSort(t *testing.T, l []api.Pair, o told) {
	t.Helper()
	if got, want := order.Sort(l, o.compare), wantSort(l, o.compare); !slices.Equal(got, want) {
		t.Errorf("Sort(%v) by %s is %v; not %v", l, o.name, got, want)
	}
}

// P3.1: all rows of a few keys, by every order.
func TestSortAll(t *testing.T) {
	for _, o := range orders {
		for _, l := range rows(7, 3) {
			checkSort(t, l, o)
		}
		for _, l := range rows(5, 5) {
			checkSort(t, l, o)
		}
	}
}

// P3.1: rows of all lengths, those at which halves are uneven among them.
func TestSortLong(t *testing.T) {
	for _, o := range orders {
		for _, l := range longRows(150) {
			checkSort(t, l, o)
		}
		for n := range 70 {
			keys := make([]int, n)
			for i := range keys {
				keys[i] = (n - i) / 2
			}
			checkSort(t, pairs(0, keys), o)
		}
	}
}

// P3.1: of texts, and of rows, which can't be held against each other otherwise.
func TestSortOthers(t *testing.T) {
	texts := order.Sort([]string{"b", "", "ab", "b", "a"}, strings.Compare)
	if !slices.Equal(texts, []string{"", "a", "ab", "b", "b"}) {
		t.Errorf("texts are sorted %q", texts)
	}
	lists := order.Sort([][]int{{3}, nil, {1, 2}, {1}}, slices.Compare)
	if want := [][]int{nil, {1}, {1, 2}, {3}}; !slices.EqualFunc(lists, want, slices.Equal) {
		t.Errorf("lists are sorted %v", lists)
	}
	none := order.Sort(make([]struct{}, 5), func(a, b struct{}) int { return 0 })
	if len(none) != 5 {
		t.Errorf("five that are nothing are %d", len(none))
	}
}

// P3.1: both rows, those of the first one ahead.
func TestMerge(t *testing.T) {
	for _, o := range orders {
		for _, a := range rows(4, 3) {
			for _, b := range rows(4, 3) {
				a, b := wantSort(a, o.compare), pairs(10, keys(wantSort(b, o.compare)))
				want := wantSort(slices.Concat(a, b), o.compare)
				if got := order.Merge(a, b, o.compare); !slices.Equal(got, want) {
					t.Errorf("Merge(%v, %v) by %s is %v", a, b, o.name, got)
				}
			}
		}
	}
}

// keys tells the pairs' keys.
func keys(l []api.Pair) []int {
	out := make([]int, len(l))
	for i, x := range l {
		out[i] = x.Key
	}
	return out
}

// P3.1: none, one, and all of the one ahead of all of the other one.
func TestMergeEdges(t *testing.T) {
	one, low, high := pairs(9, []int{2}), pairs(0, []int{1, 1, 2}), pairs(5, []int{2, 4})
	for _, c := range []struct{ a, b, want []api.Pair }{
		{nil, nil, nil},
		{nil, []api.Pair{}, nil},
		{one, nil, one},
		{nil, one, one},
		{one, one, []api.Pair{{Key: 2, Place: 9}, {Key: 2, Place: 9}}},
		{low, high, slices.Concat(low, high)},
		{high, low, []api.Pair{{Key: 1, Place: 0}, {Key: 1, Place: 1}, {Key: 2, Place: 5}, {Key: 2, Place: 2}, {Key: 4, Place: 6}}},
	} {
		if got := order.Merge(c.a, c.b, order.Keys); !slices.Equal(got, c.want) {
			t.Errorf("Merge(%v, %v) is %v", c.a, c.b, got)
		}
	}
}

// P3.2: in all rows of a few keys, wherever the question turns, with numbers of all sizes.
func TestFind(t *testing.T) {
	for _, size := range []int{1, 7, math.MaxInt / 10} {
		for _, l := range append(rows(5, 4), longRows(50)...) {
			l = wantSort(l, order.Keys)
			for key := -101; key <= 201; key++ {
				ask := func(x api.Pair) int { return max(-9, min(9, x.Key-key)) * size }
				want, wantThere := wantFind(l, ask)
				if n, there := order.Find(l, ask); n != want || there != wantThere {
					t.Fatalf("Find(%v, less %d) is %d, %v; not %d, %v", l, key, n, there, want, wantThere)
				}
			}
		}
	}
}

// P3.2: of none; where the question tells the same of all; how far the numbers are away from 0 says nothing.
func TestFindEdges(t *testing.T) {
	for _, c := range []struct {
		told  []int
		n     int
		there bool
	}{
		{nil, 0, false},
		{[]int{0}, 0, true},
		{[]int{-1}, 1, false},
		{[]int{1}, 0, false},
		{[]int{0, 0, 0}, 0, true},
		{[]int{-1, -1}, 2, false},
		{[]int{1, 1}, 0, false},
		{[]int{-1, 0, 0, 1}, 1, true},
		{[]int{-1, 1}, 1, false},
		{[]int{-1, -1, 0}, 2, true},
		{[]int{math.MinInt, 0, math.MaxInt}, 1, true},
		{[]int{math.MinInt, math.MaxInt}, 1, false},
	} {
		if n, there := order.Find(c.told, func(x int) int { return x }); n != c.n || there != c.there {
			t.Errorf("Find, told %d, is %d, %v", c.told, n, there)
		}
	}
}

// P3.3: what is the same as the one ahead, and what only is alike, or the same as one further ahead.
func TestUnique(t *testing.T) {
	a, b, c := api.Pair{Key: 1}, api.Pair{Key: 1, Place: 1}, api.Pair{Key: 2}
	for _, x := range []struct{ l, want []api.Pair }{
		{nil, nil},
		{[]api.Pair{}, nil},
		{[]api.Pair{a}, []api.Pair{a}},
		{[]api.Pair{{}}, []api.Pair{{}}},
		{[]api.Pair{a, a}, []api.Pair{a}},
		{[]api.Pair{a, b}, []api.Pair{a, b}},
		{[]api.Pair{a, b, a}, []api.Pair{a, b, a}},
		{[]api.Pair{{}, {}, a, a, a, c, c, a}, []api.Pair{{}, a, c, a}},
	} {
		if got := order.Unique(x.l); !slices.Equal(got, x.want) {
			t.Errorf("Unique(%v) is %v", x.l, got)
		}
	}
	if got := order.Unique([]string{"", "", "a", "A", "A"}); !slices.Equal(got, []string{"", "a", "A"}) {
		t.Errorf("Unique of texts is %q", got)
	}
}

// P3.3: what is not even the same as itself stays; the first of the same does.
func TestUniqueFloats(t *testing.T) {
	got := order.Unique([]float64{math.NaN(), math.NaN(), 0, math.Copysign(0, -1), 1})
	if len(got) != 4 || got[2] != 0 || math.Signbit(got[2]) || got[3] != 1 {
		t.Errorf("Unique is %v", got)
	}
}

// R1: what can't be held against each other is not the same.
func TestUniqueUncompared(t *testing.T) {
	type holder struct {
		n    int
		held any
	}
	list, table := []int{1}, map[int]int{}
	if got := order.Unique([]any{list, list, table, table, 1, 1, "1", nil, nil, list}); len(got) != 8 {
		t.Errorf("Unique is %v", got)
	}
	if got := order.Unique([]holder{{1, list}, {1, list}, {2, 3}, {2, 3}, {2, list}}); len(got) != 4 {
		t.Errorf("Unique of holders is %v", got)
	}
	if got := order.Unique([][1]any{{list}, {list}, {1}, {1}}); len(got) != 3 {
		t.Errorf("Unique of arrays is %v", got)
	}
}

// P3.3: the first of the least ones, by every order.
func TestLeast(t *testing.T) {
	for _, o := range orders {
		for _, l := range append(rows(5, 4), longRows(30)...) {
			want, wantAny := wantLeast(l, o.compare)
			if at, any := order.Least(l, o.compare); at != want || any != wantAny {
				t.Errorf("Least(%v) by %s is %d, %v; not %d, %v", l, o.name, at, any, want, wantAny)
			}
		}
	}
	if at, any := order.Least([]api.Pair{}, order.Keys); at != 0 || any {
		t.Errorf("Least of none is %d, %v", at, any)
	}
}

// P3.3: by Key alone, as -1, 0, 1, at the numbers' ends, too.
func TestKeys(t *testing.T) {
	edges := []int{math.MinInt, math.MinInt + 1, -2, -1, 0, 1, 2, math.MaxInt - 1, math.MaxInt}
	for i, a := range edges {
		for k, b := range edges {
			want := 0
			switch {
			case i < k:
				want = -1
			case i > k:
				want = 1
			}
			for _, place := range []int{math.MinInt, 0, 1} {
				if n := order.Keys(api.Pair{Key: a}, api.Pair{Key: b, Place: place}); n != want {
					t.Errorf("Keys(%d, %d) is %d", a, b, n)
				}
			}
		}
	}
}

// P3.4: sorted once more; merged of both sorted parts; found where it stands; each once.
func TestLaws(t *testing.T) {
	for _, o := range orders {
		for _, l := range append(rows(5, 3), longRows(20)...) {
			row := order.Sort(l, o.compare)
			if again := order.Sort(row, o.compare); !slices.Equal(again, row) {
				t.Errorf("%v, sorted once more by %s, is %v", row, o.name, again)
			}
			for cut := range len(l) + 1 {
				a, b := order.Sort(l[:cut], o.compare), order.Sort(l[cut:], o.compare)
				if both := order.Merge(a, b, o.compare); !slices.Equal(both, row) {
					t.Errorf("%v, cut at %d, is %v by %s", l, cut, both, o.name)
				}
			}
			checkFound(t, row, o)
		}
	}
}

// checkFound checks that each one of a row in order is found where the first one stands that is alike, and is the least of those from there on.
func checkFound(t *testing.T, row []api.Pair, o told) {
	t.Helper()
	for _, x := range row {
		n, there := order.Find(row, func(y api.Pair) int { return o.compare(y, x) })
		if !there || o.compare(row[n], x) != 0 || n > 0 && o.compare(row[n-1], x) >= 0 {
			t.Errorf("%v is found in %v by %s at %d, %v", x, row, o.name, n, there)
		}
		if at, any := order.Least(row[n:], o.compare); at != 0 || !any {
			t.Errorf("Least of %v by %s is %d, %v", row[n:], o.name, at, any)
		}
	}
}

// P3.4: what is in order, by an order in which only the same are alike, has each once.
func TestUniqueHasEachOnce(t *testing.T) {
	for _, l := range longRows(50) {
		for i := range l {
			l[i].Place %= 2
		}
		once := order.Unique(order.Sort(l, whole))
		met := map[api.Pair]int{}
		for _, x := range once {
			met[x]++
		}
		for _, x := range l {
			if met[x] != 1 {
				t.Errorf("%v stands %d times in %v", x, met[x], once)
			}
		}
		if len(met) != len(once) || !slices.Equal(order.Unique(once), once) {
			t.Errorf("Unique of %v is %v", l, once)
		}
	}
}

// R1: what is no order, no row in order, no question that tells no less of a later one: each call ends.
func TestNoOrders(t *testing.T) {
	for _, o := range noOrders() {
		for _, l := range append(rows(5, 3), longRows(40)...) {
			order.Sort(l, o.compare)
			order.Merge(l, l, o.compare)
			order.Least(l, o.compare)
			order.Find(l, func(x api.Pair) int { return o.compare(x, api.Pair{Key: 1}) })
		}
	}
	for _, l := range longRows(40) {
		order.Merge(l, l, order.Keys)
		order.Find(l, func(x api.Pair) int { return x.Key - 1 })
	}
}

// Rows are sorted by merging, and searched by halving: long ones, too, in no more steps than these take.
func TestSteps(t *testing.T) {
	const many = 1 << 17
	r := rand.New(rand.NewSource(6))
	for _, n := range []int{1, 2, 3, 1000, many - 1, many, many + 1} {
		steps := 0
		counted := func(a, b int) int {
			steps++
			return a - b
		}
		row := order.Sort(r.Perm(n), counted)
		if most := n * bits.Len(uint(n)); steps > most {
			t.Errorf("%d are sorted in %d steps, more than %d", n, steps, most)
		}
		steps = 0
		if at, there := order.Find(row, func(x int) int { return counted(x, n/3) }); at != n/3 || !there {
			t.Errorf("%d is found at %d, %v", n/3, at, there)
		}
		if most := bits.Len(uint(n)) + 1; steps > most {
			t.Errorf("of %d one is found in %d steps, more than %d", n, steps, most)
		}
		steps = 0
		if order.Merge(row, row, counted); steps > 2*n {
			t.Errorf("twice %d are merged in %d steps", n, steps)
		}
		steps = 0
		if order.Least(row, counted); steps > n {
			t.Errorf("the least of %d is told in %d steps", n, steps)
		}
	}
}

// R3: what is handed in stays as it is, the room behind its end, too.
func TestKeepsLists(t *testing.T) {
	room := pairs(0, []int{3, 1, 1, 2, 2, 0})
	before := slices.Clone(room)
	for n := range len(room) {
		l := room[:n]
		order.Sort(l, order.Keys)
		order.Merge(l, room[n:], order.Keys)
		order.Merge(room[n:], l, order.Keys)
		order.Find(l, func(x api.Pair) int { return x.Key })
		order.Unique(l)
		order.Least(l, order.Keys)
		if !slices.Equal(room, before) {
			t.Fatalf("the row is %v now", room)
		}
	}
}

// R3: what is answered is new memory, with none of what is handed in.
func TestNewMemory(t *testing.T) {
	for n := range 7 {
		l := pairs(0, []int{1, 1, 2, 2, 3, 3})[:n]
		before := slices.Clone(l)
		for name, got := range map[string][]api.Pair{
			"Sort":          order.Sort(l, order.Keys),
			"Merge, first":  order.Merge(l, nil, order.Keys),
			"Merge, second": order.Merge(nil, l, order.Keys),
			"Unique":        order.Unique(l),
		} {
			if !slices.Equal(got, before) {
				t.Errorf("%s of %v is %v", name, before, got)
			}
			got = got[:cap(got)]
			for i := range got {
				got[i] = api.Pair{Key: -1}
			}
			if !slices.Equal(l, before) {
				t.Errorf("%s tells the row itself", name)
			}
		}
	}
}

// R5: the same is answered each time.
func TestSameAgain(t *testing.T) {
	for _, l := range longRows(20) {
		if first := order.Sort(l, orders[2].compare); !slices.Equal(first, order.Sort(l, orders[2].compare)) {
			t.Errorf("%v is sorted in two ways", l)
		}
	}
}
