package line_test

import (
	"math"
	"slices"
	"strings"
	"testing"

	"yardarm/api"
	"yardarm/line"
)

// noNames are no names.
var noNames = []string{
	"", " ", "1", "1a", "-", ".", "a.1", "a-", "a b", " a", "a ", "a\t", "a\n", "\na", "#", "a#", "a # b", "$",
	"\xff", "a\xff", "\xc3", "\xed\xa0\x80", "a\x00", "a\r", long24 + "y", long24[:23] + "é", strings.Repeat("a", 1<<16),
}

// noTold are no versions.
var noTold = []api.Told{
	told("", 1), told("", -1), told("", 1000), told("a", 0), told("a", -1), told("a", 1000), told("a", math.MaxInt), told("a", math.MinInt),
	told("a", 1<<32), told("a", 1<<32+1), told("a", 1<<16+1), told("a", 257<<32), told("-", 0), told("-", 1),
}

// checkText checks what Check and Text tell of l.
func checkText(t *testing.T, l api.Line) {
	t.Helper()
	want, no := "", api.ErrLine
	if mayBe(l) {
		want, no = textOf(l), api.OK
	}
	if err := line.Check(l); err != no {
		t.Errorf("Check of %v is %d, not %d", short(l), err, no)
	}
	if got, err := line.Text(l); got != want || err != no {
		t.Errorf("Text of %v is %s, %d; not %s, %d", short(l), brief(got), err, brief(want), no)
	}
}

// short tells l so that it can be shown.
func short(l api.Line) api.Line {
	l.Names, l.Versions = l.Names[:min(len(l.Names), 8)], l.Versions[:min(len(l.Versions), 8)]
	return l
}

// clone tells l in memory of its own.
func clone(l api.Line) api.Line {
	l.Names, l.Versions = slices.Clone(l.Names), slices.Clone(l.Versions)
	return l
}

// others tells l changed in one thing, each time another one.
func others(l api.Line) []api.Line {
	var all []api.Line
	put := func(change func(l *api.Line)) {
		c := clone(l)
		change(&c)
		all = append(all, c)
	}
	numbers := []int{-1, 0, 1, 2, 3, 4, 5, 6, 7, 8, 9, 10, 11, 15, 16, 99, 255, 256, 257, 1 << 16, 1 << 32, 1<<32 + 1, math.MaxInt, math.MinInt, math.MinInt + 1}
	for _, n := range numbers {
		put(func(l *api.Line) { l.Kind = n })
		put(func(l *api.Line) { l.Level = n })
		put(func(l *api.Line) { l.Bits = n })
	}
	put(func(l *api.Line) { l.First = !l.First })
	put(func(l *api.Line) { l.Names = nil })
	put(func(l *api.Line) { l.Versions = nil })
	for _, s := range append([]string{"T9", "é", long24, "scan"}, noNames...) {
		put(func(l *api.Line) { l.Names = append(l.Names, s) })
		for at := range min(len(l.Names), 4) {
			put(func(l *api.Line) { l.Names[at] = s })
		}
		if last := len(l.Names) - 1; last > 3 {
			put(func(l *api.Line) { l.Names[last] = s })
		}
	}
	for _, v := range append([]api.Told{none, told("b", 1), told(long24, 999)}, noTold...) {
		put(func(l *api.Line) { l.Versions = append(l.Versions, v) })
		put(func(l *api.Line) { l.Names, l.Versions = append(l.Names, "z"), append(l.Versions, v) })
		for at := range min(len(l.Versions), 3) {
			put(func(l *api.Line) { l.Versions[at] = v })
		}
		if last := len(l.Versions) - 1; last > 2 {
			put(func(l *api.Line) { l.Versions[last] = v })
		}
	}
	for _, s := range noNames {
		put(func(l *api.Line) { l.Versions = append(l.Versions, told(s, 1)) })
		if len(l.Versions) > 0 && s != "" {
			put(func(l *api.Line) { l.Versions[0] = told(s, 0) })
			put(func(l *api.Line) { l.Versions[0] = told(s, 1) })
		}
	}
	for at := range l.Names {
		put(func(l *api.Line) { l.Names = slices.Delete(l.Names, at, at+1) })
	}
	for at := range l.Versions {
		put(func(l *api.Line) { l.Versions = slices.Delete(l.Versions, at, at+1) })
	}
	return all
}

// P12.1, P12.2: lines that may be, and what comes of changing one thing of them.
func TestCheckText(t *testing.T) {
	for _, l := range lines() {
		if err := line.Check(l); err != api.OK {
			t.Errorf("Check of %v is %d", short(l), err)
		}
		checkText(t, l)
		for _, other := range others(l) {
			checkText(t, other)
		}
	}
}

// P12.1: each kind with so many names and versions, and each other field.
func TestCheckAll(t *testing.T) {
	for kind := -2; kind <= 12; kind++ {
		for n := range 5 {
			for v := range 4 {
				for other := range 16 {
					l := api.Line{Kind: kind, Names: many(n), Versions: slices.Repeat([]api.Told{none}, v)}
					l.Level, l.First, l.Bits = other%4, other/4%2 == 1, other/8*5
					checkText(t, l)
				}
			}
		}
	}
}

// P12.1, P12.2: as many as the limits say, one less, and one more.
func TestCheckLimits(t *testing.T) {
	for _, n := range []int{39, 40, 41, 42, 299, 300, 301, 302, 303, 600, 1 << 16} {
		checkText(t, scan(many(n+2), slices.Repeat([]api.Told{told("t", 999)}, n)...))
		checkText(t, of(7, many(n)...))
		checkText(t, match(false, many(n)...))
		checkText(t, match(true, many(n)...))
		checkText(t, of(7, slices.Repeat([]string{"a"}, n)...))
	}
	for k := -2; k <= 1100; k++ {
		checkText(t, read("T", "x", told("a", k)))
		checkText(t, scan([]string{"T", "P", "x", "y"}, none, told("a", k)))
	}
}

// P12.2: texts of lines.
func TestText(t *testing.T) {
	for _, c := range []struct {
		l    api.Line
		want string
	}{
		{api.Line{}, "\n"},
		{begin("T", "s", 1), "begin T s 1\n"},
		{begin("T", "s", 2), "begin T s 2\n"},
		{begin("T", "s", 3), "begin T s 2.99\n"},
		{begin("T", "s", 4), "begin T s 3\n"},
		{of(2, "T", "x"), "write T x\n"},
		{read("T", "x", none), "read T x -\n"},
		{read("T", "x", told("U", 120)), "read T x U.120\n"},
		{scan([]string{"T", "P"}), "scan T P\n"},
		{scan([]string{"T", "P", "x", "y"}, told("U", 1), none), "scan T P x U.1 y -\n"},
		{of(5, "T"), "commit T\n"},
		{of(6, "T"), "abort T\n"},
		{of(7, "x"), "order x\n"},
		{of(7, "x", "T", "U"), "order x T U\n"},
		{match(false, "P", "x"), "match P x\n"},
		{match(true, "P", "x"), "match P x -\n"},
		{match(true, "P", "x", "T1"), "match P x - T1\n"},
		{match(false, "P", "x", "T1", "T1"), "match P x T1 T1\n"},
		{want("s", 0), "want s\n"},
		{want("s", 15), "want s ryw mr mw wfr\n"},
		{want("s", 10), "want s mr wfr\n"},
	} {
		if got, err := line.Text(c.l); got != c.want || err != api.OK {
			t.Errorf("Text of %v is %q, %d; not %q", c.l, got, err, c.want)
		}
	}
}

// P12.1: all pairs of lines, such as may not be among them.
func TestSame(t *testing.T) {
	all := lines()
	for _, l := range []api.Line{begin("T", "s", 1), scan([]string{"T", "P", "x", "y"}, none, told("a", 1)), match(true, "P", "x", "T"), {}} {
		all = append(all, l)
		all = append(all, others(l)...)
	}
	for _, a := range all {
		for _, b := range all {
			if got, want := line.Same(a, b), same(a, b); got != want {
				t.Fatalf("Same of %v, %v is %v", short(a), short(b), got)
			}
		}
		if !line.Same(a, clone(a)) {
			t.Errorf("Same of %v and its like is false", short(a))
		}
	}
	if !line.Same(api.Line{Names: []string{}, Versions: []api.Told{}}, api.Line{}) {
		t.Error("empty lists are not nil ones")
	}
}

// R3: empty lists are as nil ones.
func TestEmptyLists(t *testing.T) {
	for _, l := range lines() {
		if len(l.Versions) == 0 {
			l.Versions = []api.Told{}
		}
		if len(l.Names) == 0 {
			l.Names = []string{}
		}
		checkText(t, l)
	}
}
