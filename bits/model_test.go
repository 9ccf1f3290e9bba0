package bits_test

import (
	"math"
	"math/rand"
	"slices"

	"yardarm/api"
)

// edges are the numbers at which words, and sets, begin and end.
var edges = []int{0, 1, 63, 64, 65, 127, 128, 9983, 9984, 9998, 9999}

// outside are numbers that no set has.
var outside = []int{math.MinInt, math.MinInt + 1, -10000, -65, -64, -63, -1, 10000, 10001, 10047, 10048, 1 << 32, math.MaxInt - 1, math.MaxInt}

// wantWords tells the words in which the numbers are kept.
func wantWords(l []int) []uint64 {
	if len(l) == 0 {
		return nil
	}
	words := make([]uint64, slices.Max(l)/64+1)
	for _, n := range l {
		words[n/64] |= 1 << (n % 64)
	}
	return words
}

// set tells the set of the numbers.
func set(l ...int) api.Bits {
	return api.Bits{Words: wantWords(l)}
}

// parts tells all lists that can be taken of l, rising if l is.
func parts(l []int) [][]int {
	all := [][]int{nil}
	for _, n := range l {
		for _, part := range all {
			all = append(all, append(part[:len(part):len(part)], n))
		}
	}
	return all
}

// anyLists tells many lists, each of numbers that rise: few and many, near and far.
func anyLists(many int) [][]int {
	r := rand.New(rand.NewSource(7))
	all := make([][]int, many)
	for i := range all {
		below := 1 + r.Intn(api.MaxBits)
		if r.Intn(2) == 0 {
			below = 1 + r.Intn(200)
		}
		for range r.Intn(1 + r.Intn(400)) {
			all[i] = append(all[i], r.Intn(below))
		}
		slices.Sort(all[i])
		all[i] = slices.Compact(all[i])
	}
	return all
}

// full tells n words, all bits of them 1.
func full(n int) []uint64 {
	return slices.Repeat([]uint64{math.MaxUint64}, n)
}

// wrong are what may not be.
func wrong() []api.Bits {
	long := make([]uint64, 1000)
	return []api.Bits{
		{Words: []uint64{0}},
		{Words: []uint64{1, 0}},
		{Words: []uint64{0, 0, 0}},
		{Words: []uint64{math.MaxUint64, math.MaxUint64, 0}},
		{Words: make([]uint64, 157)},
		{Words: append(full(156), 0)},
		{Words: append(full(156), 1<<16)},
		{Words: append(make([]uint64, 156), 1<<15|1<<16)},
		{Words: append(make([]uint64, 156), 1<<63)},
		{Words: full(157)},
		{Words: append(full(156), 1, 0)},
		{Words: append(full(156), 0, 1)},
		{Words: full(158)},
		{Words: long},
		{Words: append(long, 1)},
		{Words: append(full(1000), 1)},
	}
}

// both tells the numbers of a that b has, too, and those that it has not.
func both(a, b []int) (meet, minus []int) {
	for _, n := range a {
		if slices.Contains(b, n) {
			meet = append(meet, n)
		} else {
			minus = append(minus, n)
		}
	}
	return meet, minus
}

// either tells the numbers of one of the lists, at least, rising.
func either(lists ...[]int) []int {
	l := slices.Concat(lists...)
	slices.Sort(l)
	return slices.Compact(l)
}
