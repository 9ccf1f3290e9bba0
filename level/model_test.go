package level_test

import (
	"math"
	"math/rand"
	"slices"
	"testing"

	"yardarm/api"
)

// levelTexts are the levels' texts, by the levels.
var levelTexts = map[int]string{1: "1", 2: "2", 3: "2.99", 4: "3"}

// wordTexts are the guarantees' texts, by the guarantees.
var wordTexts = []string{
	"", "ryw", "mr", "ryw mr", "mw", "ryw mw", "mr mw", "ryw mr mw",
	"wfr", "ryw wfr", "mr wfr", "ryw mr wfr", "mw wfr", "ryw mw wfr", "mr mw wfr", "ryw mr mw wfr",
}

// outside are numbers that are no levels, no guarantees, and no places of short rows; some of them would be such, if their high bits were lost.
var outside = []int{math.MinInt, math.MinInt + 1, -1 << 32, -300, -100, -2, -1, 16, 17, 257, 258, 1 << 16, 1<<16 + 3, 1 << 32, 1<<32 + 1, 1<<32 + 4, math.MaxInt - 1, math.MaxInt}

// rows tells all rows of so many numbers at most, each from low to high.
func rows(many, low, high int) [][]int {
	all := [][]int{nil}
	for at := 0; at < len(all); at++ {
		for l := low; l <= high && len(all[at]) < many; l++ {
			all = append(all, append(slices.Clone(all[at]), l))
		}
	}
	return all
}

// anyRow tells an assignment of that length.
func anyRow(r *rand.Rand, n int) []int {
	row := make([]int, n)
	for i := range row {
		row[i] = 1 + r.Intn(4)
	}
	return row
}

// fine tells whether the row is an assignment.
func fine(row []int) bool {
	return !slices.ContainsFunc(row, func(l int) bool { return l != 1 && l != 2 && l != 3 && l != 4 })
}

// two is what the chapter's words say of two rows.
type two struct {
	err        api.Errno
	below      bool
	join, meet []int
}

// twoOf tells what the chapter's words say of a and b.
func twoOf(a, b []int) two {
	if !fine(a) || !fine(b) {
		return two{err: api.ErrLevel}
	}
	if len(a) != len(b) {
		return two{err: api.ErrArg}
	}
	w := two{below: true}
	for i := range a {
		less, more := a[i], b[i]
		if a[i] > b[i] {
			w.below = false
			less, more = b[i], a[i]
		}
		w.join = append(w.join, more)
		w.meet = append(w.meet, less)
	}
	return w
}

// checkRow checks the row that a call told of what was handed in, and its error.
func checkRow(t *testing.T, call string, got []int, err api.Errno, want []int, no api.Errno, in ...any) {
	t.Helper()
	if err != no || !slices.Equal(got, want) {
		t.Errorf("%s of %v is %v, %d; not %v, %d", call, in, got, err, want, no)
	}
}
