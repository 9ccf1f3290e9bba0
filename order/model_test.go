package order_test

import (
	"cmp"
	"math"
	"math/rand"

	"yardarm/api"
	"yardarm/order"
)

// told is a comparison, by its name.
type told struct {
	name    string
	compare func(a, b api.Pair) int
}

// orders are comparisons that are orders: by keys, the other way round, with many that are alike, with all alike, with numbers of all sizes.
var orders = []told{
	{"Keys", order.Keys},
	{"back", func(a, b api.Pair) int { return order.Keys(b, a) }},
	{"halved", func(a, b api.Pair) int { return cmp.Compare(a.Key>>1, b.Key>>1) }},
	{"alike", func(a, b api.Pair) int { return 0 }},
	{"whole", whole},
	{"far", func(a, b api.Pair) int {
		switch {
		case a.Key < b.Key:
			return math.MinInt
		case a.Key > b.Key:
			return math.MaxInt
		}
		return 0
	}},
	{"by how much", func(a, b api.Pair) int { return a.Key - b.Key }},
}

// whole holds all fields against each other: only the same are alike.
func whole(a, b api.Pair) int {
	return cmp.Or(cmp.Compare(a.Key, b.Key), cmp.Compare(a.Place, b.Place))
}

// noOrders tells comparisons that are no orders.
func noOrders() []told {
	r := rand.New(rand.NewSource(5))
	always := func(n int) func(a, b api.Pair) int {
		return func(a, b api.Pair) int { return n }
	}
	return []told{
		{"always ahead", always(-1)},
		{"always behind", always(1)},
		{"far ahead", always(math.MinInt)},
		{"far behind", always(math.MaxInt)},
		{"round", func(a, b api.Pair) int { return (a.Key-b.Key+4)%3 - 1 }},
		{"any", func(a, b api.Pair) int { return r.Intn(3) - 1 }},
	}
}

// pairs tells the pairs of these keys, each at its place from the first one on.
func pairs(first int, keys []int) []api.Pair {
	l := make([]api.Pair, len(keys))
	for i, key := range keys {
		l[i] = api.Pair{Key: key, Place: first + i}
	}
	return l
}

// rows tells all rows of at most n keys from 0 up to keys less 1.
func rows(n, keys int) [][]api.Pair {
	all := [][]int{nil}
	for ahead := all; n > 0; n-- {
		var longer [][]int
		for _, l := range ahead {
			for key := range keys {
				longer = append(longer, append(l[:len(l):len(l)], key))
			}
		}
		all, ahead = append(all, longer...), longer
	}
	out := make([][]api.Pair, len(all))
	for i, l := range all {
		out[i] = pairs(0, l)
	}
	return out
}

// longRows tells n rows of up to 300 keys, of which more or fewer are the same.
func longRows(n int) [][]api.Pair {
	r := rand.New(rand.NewSource(4))
	all := make([][]api.Pair, n)
	for i := range all {
		keys := make([]int, r.Intn(300))
		for k := range keys {
			keys[k] = r.Intn(1+r.Intn(300)) - 100
		}
		all[i] = pairs(0, keys)
	}
	return all
}

// wantSort puts each one behind the last of those put before that it does not stand ahead of.
func wantSort(l []api.Pair, compare func(a, b api.Pair) int) []api.Pair {
	var row []api.Pair
	for _, x := range l {
		n := len(row)
		row = append(row, x)
		for ; n > 0 && compare(x, row[n-1]) < 0; n-- {
			row[n], row[n-1] = row[n-1], x
		}
	}
	return row
}

// wantLeast tells the first one that no other one stands ahead of, as the chapter says it.
func wantLeast(l []api.Pair, compare func(a, b api.Pair) int) (int, bool) {
	for i, x := range l {
		first := true
		for k, y := range l {
			first = first && (i == k || compare(y, x) >= 0)
		}
		if first {
			return i, true
		}
	}
	return 0, false
}

// wantFind tells how many the question tells less than 0 of, and whether it tells 0 of the one behind these.
func wantFind(l []api.Pair, ask func(x api.Pair) int) (int, bool) {
	n := 0
	for _, x := range l {
		if ask(x) < 0 {
			n++
		}
	}
	return n, n < len(l) && ask(l[n]) == 0
}
