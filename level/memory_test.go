package level_test

import (
	"slices"
	"testing"

	"yardarm/level"
)

// told makes all calls that tell rows.
func told(a, b []int) [][]int {
	uniform, _ := level.Uniform(len(a), 3)
	join, _ := level.Join(a, b)
	meet, _ := level.Meet(a, b)
	all := [][]int{uniform, join, meet}
	for i := range a {
		// The same level as before is new memory, too.
		with, _ := level.With(a, i, a[i])
		other, _ := level.With(a, i, 4)
		all = append(all, with, other)
	}
	return all
}

// spoil writes over all rows, and the room behind their ends.
func spoil(lists [][]int) {
	for _, l := range lists {
		for i := range l[:cap(l)] {
			l[:cap(l)][i] = 7777
		}
	}
}

// R3: what is handed in stays as it is, the room behind its end, too, and what is answered is new memory.
func TestKeepsRows(t *testing.T) {
	for _, row := range append(rows(3, 1, 4), slices.Repeat([]int{1, 4, 2, 3}, 75)) {
		a := append(slices.Clone(row), 8888, 9999)
		b := append(slices.Clone(row), 5555, 6666)
		slices.Reverse(b[:len(row)])
		wantA, wantB := slices.Clone(a), slices.Clone(b)
		spoil(told(a[:len(row)], b[:len(row)]))
		level.Below(a[:len(row)], b[:len(row)])
		if !slices.Equal(a, wantA) || !slices.Equal(b, wantB) {
			t.Errorf("of %v what was handed in is told, or changed: %v, %v", row, a, b)
		}
	}
}

// R3: one row handed in as both stays as it is.
func TestKeepsBoth(t *testing.T) {
	a := []int{1, 2, 3, 4}
	spoil(told(a, a))
	if !slices.Equal(a, []int{1, 2, 3, 4}) {
		t.Errorf("what was handed in is told, or changed: %v", a)
	}
}

// R3, R5: the same is answered each time, whatever is done to what was answered.
func TestSameAgain(t *testing.T) {
	a, b := []int{1, 4, 2, 3, 1}, []int{2, 2, 2, 4, 1}
	first := told(a, b)
	var want [][]int
	for _, l := range first {
		want = append(want, slices.Clone(l))
	}
	spoil(first)
	for range 3 {
		if again := told(a, b); !slices.EqualFunc(again, want, slices.Equal[[]int]) {
			t.Errorf("of %v, %v are told %v, and %v", a, b, want, again)
		}
	}
}
