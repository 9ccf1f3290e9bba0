package names

import (
	"iter"
	"strings"

	"yardarm/api"
)

// numbering tells a function that numbers names as it meets them, from 0 on; one that it meets again has the number that it had.
func numbering() func(s string) int {
	numbers := map[string]int{}
	return func(s string) int {
		n, met := numbers[s]
		if !met {
			n = len(numbers)
			numbers[s] = n
		}
		return n
	}
}

// numbered tells the numbers of t, rising, and their names.
func numbered(t api.Table) iter.Seq2[int, string] {
	return func(yield func(n int, s string) bool) {
		for n := range len(t.Names) {
			if !yield(n, t.Names[n]) {
				return
			}
		}
	}
}

// opened tells a numbering that has met the names of t, so that a name that t has not gets the number behind its last one; or that t may not be.
func opened(t api.Table) (func(s string) int, api.Errno) {
	number, err := numbering(), api.OK
check:
	for n, s := range numbered(t) {
		switch {
		case n == api.MaxNames, Check(s) != api.OK, number(s) != n:
			err = api.ErrTable
			break check
		}
	}
	return number, err
}

// put puts the names of l into t, one by one: it tells the table that comes of it, and of each name its number.
func put(t api.Table, l ...string) (api.Table, []int, api.Errno) {
	number, err := opened(t)
	if err != api.OK {
		return api.Table{}, nil, err
	}
	var more api.Table
	for _, s := range numbered(t) {
		more.Names = append(more.Names, strings.Clone(s))
	}
	row := make([]int, len(l))
	for at, s := range l {
		if err := Check(s); err != api.OK {
			return api.Table{}, nil, err
		}
		row[at] = number(s)
		switch row[at] {
		case api.MaxNames:
			return api.Table{}, nil, api.ErrFull
		case len(more.Names):
			more.Names = append(more.Names, strings.Clone(s))
		}
	}
	return more, row, api.OK
}
