package names_test

import (
	"math"
	"slices"
	"strconv"
	"strings"
	"testing"
	"unicode/utf8"

	"yardarm/api"
)

const long24 = "abcdefghijklmnopqrstuvwx"

// outside are numbers that are no places of tables; some of them would be such, if their high bits were lost.
var outside = []int{math.MinInt, math.MinInt + 1, -1 << 32, -1<<32 + 1, -300, -2, -1, 300, 301, 1 << 16, 1<<16 + 1, 1 << 32, 1<<32 + 1, math.MaxInt - 1, math.MaxInt}

// words are names, one of which is often a beginning of another one.
var words = []string{"a", "b", "ab", "A", "_", "é", "a1", long24, strings.Repeat("é", 12), "\uFFFD"}

// noWords are no names.
var noWords = []string{
	"", " ", "1", "1a", "0", ".", "-", "a.b", "a-b", "a b", " a", "a ", "a\t", "\na", "a\n", "#a", "a#", "$", "a$",
	"\xff", "a\xff", "\xef\xbf", "\xed\xa0\x80", "\x00", "a\x00", "a\x7f", "[", "`", "{", "@", "/", ":",
	long24 + "y", long24 + "1", strings.Repeat("é", 13), strings.Repeat("a", 23) + "é", strings.Repeat("a", 1<<16),
}

// isName tells whether s is a word.
func isName(s string) bool {
	if s == "" || len(s) > 24 || !utf8.ValidString(s) || strings.ContainsRune("0123456789", rune(s[0])) {
		return false
	}
	const may = "0123456789_abcdefghijklmnopqrstuvwxyzABCDEFGHIJKLMNOPQRSTUVWXYZ"
	return !strings.ContainsFunc(s, func(r rune) bool { return r < 128 && !strings.ContainsRune(may, r) })
}

// isTable tells whether the names may be a table.
func isTable(l []string) bool {
	for n, s := range l {
		if !isName(s) || slices.Index(l, s) != n {
			return false
		}
	}
	return len(l) <= 300
}

// putInto tells what the chapter's words say of names that are put one by one: the names then, their numbers, and the first error.
func putInto(names, l []string) ([]string, []int, api.Errno) {
	names = slices.Clone(names)
	var numbers []int
	for _, s := range l {
		if !isName(s) {
			return nil, nil, 200
		}
		if !slices.Contains(names, s) {
			if len(names) == 300 {
				return nil, nil, 6
			}
			names = append(names, s)
		}
		numbers = append(numbers, slices.Index(names, s))
	}
	return names, numbers, 0
}

// moved tells what the chapter's words say of the names a that are looked for in b.
func moved(a, b []string) ([]int, api.Errno) {
	if !isTable(a) || !isTable(b) {
		return nil, 201
	}
	var numbers []int
	for _, s := range a {
		n := slices.Index(b, s)
		if n < 0 {
			return nil, 4
		}
		numbers = append(numbers, n)
	}
	return numbers, 0
}

// rows tells all rows of at most so many of l.
func rows(many int, l ...string) [][]string {
	all := [][]string{nil}
	for at := 0; at < len(all); at++ {
		for _, s := range l {
			if len(all[at]) < many {
				all = append(all, append(slices.Clone(all[at]), s))
			}
		}
	}
	return all
}

// many tells n names, no two the same.
func many(n int) []string {
	var l []string
	for i := range n {
		l = append(l, "n"+strconv.Itoa(i))
	}
	return l
}

// with tells l with s at the place at.
func with(l []string, at int, s string) []string {
	l = slices.Clone(l)
	l[at] = s
	return l
}

func table(l ...string) api.Table {
	return api.Table{Names: l}
}

// brief tells l so that it can be shown.
func brief(l []string) string {
	if len(l) > 8 {
		return strconv.Itoa(len(l)) + " names, from " + brief(l[:2]) + " on"
	}
	return strconv.Quote(strings.Join(l, " "))
}

// checkPut checks the table, the numbers and the error that a call told, and that the table may be.
func checkPut(t *testing.T, call string, got api.Table, numbers []int, err api.Errno, want []string, wantNumbers []int, no api.Errno) {
	t.Helper()
	if err != no || !slices.Equal(got.Names, want) || !slices.Equal(numbers, wantNumbers) {
		t.Errorf("%s is %s, %v, %d; not %s, %v, %d", call, brief(got.Names), numbers, err, brief(want), wantNumbers, no)
	}
	if !isTable(got.Names) {
		t.Errorf("%s tells %s, which may not be", call, brief(got.Names))
	}
}
