package format_test

import (
	"slices"
	"strings"
	"testing"

	"yardarm/api"
	"yardarm/format"
	"yardarm/history"
)

// checkFull tells whether ahead alone is all right, and each of the lines behind it too much.
func checkFull(t *testing.T, ahead []api.Line, fits, more []api.Line) {
	t.Helper()
	s := text(ahead)
	for _, x := range fits {
		h, at, err := format.Of(append(clone(ahead), x, api.Line{}))
		if at != len(ahead)+2 || err != api.OK || history.Check(h) != api.OK {
			t.Errorf("with %q behind Of %s is %d, %d", text([]api.Line{x}), short(s), at, err)
		}
	}
	for _, x := range more {
		h, at, err := format.Of(append(clone(ahead), api.Line{}, x, api.Line{Kind: 99}))
		if !equal(h, api.History{}) || at != len(ahead)+1 || err != api.ErrFull {
			t.Errorf("with %q behind Of %s is %d, %d; not %d, ErrFull", text([]api.Line{x}), short(s), at, err, len(ahead)+1)
		}
		one := text([]api.Line{x})
		full := s + " # nothing\n \t" + one + "commit T"
		if len(full) > api.MaxText {
			continue
		}
		h, at, err = format.Read(full)
		if !equal(h, api.History{}) || at != len(s)+11 || err != api.ErrFull {
			t.Errorf("with %q behind Read of %s is %d, %d; not %d, ErrFull", one, short(s), at, err, len(s)+11)
		}
	}
}

// P13.2, P13.3: 300 transactions, whatever speaks of them.
func TestTransactions(t *testing.T) {
	ts := many("t", 300)
	byEvent := func(n int) []api.Line {
		var l []api.Line
		for _, name := range ts[:n] {
			l = append(l, commit(name))
		}
		return l
	}
	more := []api.Line{
		begin("u", "s", 1), write("u", "x"), read("u", "x", none), read("t1", "x", told("u", 1)), scan([]string{"u", "p"}),
		scan([]string{"t1", "p", "x", "y"}, none, told("u", 9)), commit("u"), abort("u"), order("x", "u"), order("x", "t5", "u"), match(true, "p", "x", "t5", "u"),
	}
	fits := []api.Line{
		begin("t299", "u", 1), write("t0", "u"), read("t1", "u", told("t299", 1)), scan([]string{"t7", "u", "u"}, told("t299", 9)),
		commit("t299"), order("u", ts...), match(false, "u", "u", ts...), want("u", 1), {},
	}
	checkFull(t, byEvent(300), fits, more)
	checkFull(t, []api.Line{order("x", ts...)}, fits, more)
	checkFull(t, []api.Line{match(false, "p", "x", ts...)}, fits, more)
	checkFull(t, slices.Concat(byEvent(150), []api.Line{order("x", ts[100:]...)}), fits, more)
	checkFull(t, byEvent(299), append(more, order("x", "u", "u")), []api.Line{order("x", "u", "v"), read("u", "x", told("v", 1)), match(true, "p", "x", "v", "u")})
}

// P13.2, P13.3: 60 sessions, 300 objects and 60 predicates, whatever speaks of them.
func TestNames(t *testing.T) {
	var byBegin, byWant, byWrite, byOrder, byScan, byMatch []api.Line
	for _, name := range many("s", 60) {
		byBegin, byWant = append(byBegin, begin("t", name, 2)), append(byWant, want(name, 15))
	}
	for _, name := range many("x", 300) {
		byWrite, byOrder = append(byWrite, write("t", name)), append(byOrder, order(name))
	}
	for _, name := range many("p", 60) {
		byScan, byMatch = append(byScan, scan([]string{"t", name})), append(byMatch, match(true, name, "x0"))
	}
	none40 := make([]api.Told, 40)
	var scans []api.Line
	for at := 0; at < 300; at += 30 {
		scans = append(scans, scan(append([]string{"t", "p0"}, many("x", 300)[at:at+30]...), none40[:30]...))
	}
	for _, l := range [][]api.Line{byBegin, byWant} {
		checkFull(t, l, []api.Line{begin("u", "s59", 1), want("s0", 1), write("u", "u")}, []api.Line{begin("t", "u", 1), want("u", 0)})
	}
	for _, l := range [][]api.Line{byWrite, byOrder, scans} {
		checkFull(t, l, []api.Line{write("u", "x299"), read("t", "x0", none), match(true, "u", "x7"), want("u", 0)}, []api.Line{
			write("t", "u"), read("t", "u", none), scan([]string{"t", "p", "x4", "u"}, none, none), scan([]string{"t", "p", "u"}, none), order("u"), match(true, "p", "u"),
		})
	}
	for _, l := range [][]api.Line{byScan, byMatch} {
		checkFull(t, l, []api.Line{scan([]string{"t", "p59"}), match(false, "p0", "u"), order("u")}, []api.Line{scan([]string{"t", "u"}), match(true, "u", "x")})
	}
	// Names of all sorts do not crowd each other.
	l := slices.Concat(byBegin, byWant, byWrite, byOrder, byScan, byMatch, scans, []api.Line{order("x4", many("t", 299)...)})
	if h := historyOf(t, l); len(h.Transactions) != 300 || len(h.Sessions) != 60 || len(h.Objects) != 300 || len(h.Predicates) != 60 {
		t.Errorf("of all sorts there are %d, %d, %d, %d", len(h.Transactions), len(h.Sessions), len(h.Objects), len(h.Predicates))
	}
}

// P13.2, P13.3: 3000 events, orders, matches and wants.
func TestRows(t *testing.T) {
	event := []api.Line{begin("t", "s", 1), write("t", "x"), read("t", "x", none), scan([]string{"t", "p"}), commit("t"), abort("t")}
	row := []api.Line{order("x", "t"), match(true, "p", "x", "t"), want("s", 7)}
	var events []api.Line
	for at := range 3000 {
		events = append(events, event[(at+at/6)%6])
	}
	checkFull(t, events, append(row, api.Line{}), event)
	checkFull(t, events[:2999], slices.Concat(event, row), nil)
	for at, x := range row {
		others := slices.Concat(event, row[:at], row[at+1:])
		checkFull(t, slices.Repeat([]api.Line{x}, 3000), append(others, api.Line{}), []api.Line{x})
		checkFull(t, slices.Repeat([]api.Line{x}, 2999), append(others, x), nil)
	}
}

// P13.2, P13.3: 999 writes of a transaction and an object.
func TestWrites(t *testing.T) {
	full := slices.Repeat([]api.Line{write("t", "x"), {}, read("t", "x", told("t", 999)), order("x", "t")}, 999)
	fits := []api.Line{write("t", "y"), write("u", "x"), write("x", "t"), read("t", "x", told("t", 1)), order("x", "t"), commit("t")}
	checkFull(t, full, fits, []api.Line{write("t", "x")})
	full = append(full, write("t", "y"), write("u", "x"))
	checkFull(t, full, fits, []api.Line{write("t", "x")})
	h := historyOf(t, full)
	for _, at := range []int{0, 1, 500, 998} {
		if v := h.Events[2*at].Version; v != (api.Version{K: at + 1}) {
			t.Errorf("the write %d is of the version %v", at, v)
		}
	}
	if v := h.Events[1999].Version; v != (api.Version{T: 1, K: 1}) {
		t.Errorf("another one's write is of the version %v", v)
	}
	checkFull(t, full[4:], append(fits, write("t", "x")), nil)
}

// P13.2, P13.3, R2: what is too much ahead of a line that may not be, at it, and behind it.
func TestFirst(t *testing.T) {
	full := append([]api.Line{order("x", many("t", 300)...)}, begin("t0", "s", 1))
	more, bad, both := commit("u"), api.Line{Kind: 99}, api.Line{Kind: api.EvCommit, Names: []string{"u", "v"}}
	for _, c := range []struct {
		behind []api.Line
		at     int
		err    api.Errno
	}{
		{[]api.Line{more}, 2, 6},
		{[]api.Line{more, more}, 2, 6},
		{[]api.Line{more, bad}, 2, 6},
		{[]api.Line{bad, more}, 2, 220},
		{[]api.Line{both}, 2, 220},
		{[]api.Line{{}, more, both}, 3, 6},
		{[]api.Line{{}, both, more}, 3, 220},
	} {
		l := append(clone(full), c.behind...)
		if h, at, err := format.Of(l); !equal(h, api.History{}) || at != c.at || err != c.err {
			t.Errorf("Of .., %v is %d, %d; not %d, %d", c.behind, at, err, c.at, c.err)
		}
		checkOf(t, l)
	}
	// In a text all lines are read first.
	s := text(full)
	for behind, want := range map[string]struct {
		at  int
		err api.Errno
	}{
		"commit u":                               {0, 6},
		"commit u\ncommit v":                     {0, 6},
		"\n\tcommit u # v\ncommit w":             {1, 6},
		"commit t0 u":                            {10, 220},
		"commit u\nbex":                          {11, 220},
		"commit u\nread t0 x u.1000":             {21, 3},
		"commit u\nread u x t7.1000\n\nbex":      {21, 3},
		"commit u\nbegin u s 1\ncommit v\nbegin": {35, 220},
	} {
		if h, at, err := format.Read(s + behind); !equal(h, api.History{}) || at != len(s)+want.at || err != want.err {
			t.Errorf("Read of .., %q is %d, %d; not %d, %d", behind, at-len(s), err, want.at, want.err)
		}
		checkText(t, s+behind)
	}
}

// P13.1, P13.3, R6: texts of 131072 bytes, and of one more.
func TestMaxText(t *testing.T) {
	const most = 131072
	long := "# " + strings.Repeat("a", most-4) + "\n"
	for _, s := range []string{
		strings.Repeat("\n", most-1), strings.Repeat(" ", most-1), strings.Repeat("commit T\n", most/9), long, "commit T\n" + strings.Repeat(" \n", most/2-5),
		strings.Repeat("want s mr\n", 3000) + strings.Repeat("order x T U\n", 3000),
	} {
		for len(s) < most {
			s += "\n"
		}
		n := strings.Count(s, "\n")
		if !strings.HasSuffix(s, "\n") {
			n++
		}
		l, begins, at, err := format.Lines(s)
		if len(l) != n || len(begins) != n || at != most || err != api.OK {
			t.Errorf("Lines of %s is %d lines, %d, %d, %d; not %d", short(s), len(l), len(begins), at, err, n)
		}
		h, at, err := format.Read(s)
		if fits := len(h.Events) == strings.Count(s, "commit") && at == most && err == api.OK; fits != (strings.Count(s, "commit") <= 3000) {
			t.Errorf("Read of %s is %d events, %d, %d", short(s), len(h.Events), at, err)
		}
		for _, s := range []string{s + "\n", "$" + s, s + "\xff", s + s} {
			if l, begins, at, err := format.Lines(s); l != nil || begins != nil || at != 0 || err != api.ErrLong {
				t.Errorf("Lines of %s is %d lines, %d, %d, %d", short(s), len(l), len(begins), at, err)
			}
			if h, at, err := format.Read(s); !equal(h, api.History{}) || at != 0 || err != api.ErrLong {
				t.Errorf("Read of %s is %d events, %d, %d", short(s), len(h.Events), at, err)
			}
		}
	}
	if _, _, at, err := format.Lines("$" + strings.Repeat("\n", most-1)); at != 0 || err != api.ErrLine {
		t.Errorf("a text that is not too long is %d, %d", at, err)
	}
	// Lines have no limit of their number, and histories none of their text.
	h, at, err := format.Of(make([]api.Line, 200000))
	if !equal(h, api.History{}) || at != 200000 || err != api.OK {
		t.Errorf("Of 200000 lines of Kind 0 is %v, %d, %d", h, at, err)
	}
}

// P13.2, R1: as much as there may be of all.
func TestMost(t *testing.T) {
	ts, xs := many("transaction", 300), many("x", 300)
	var l []api.Line
	var versions []api.Told
	for at := range 40 {
		versions = append(versions, told(ts[at*7], 999))
	}
	for at := range 3000 {
		l = append(l, scan(append([]string{ts[at%300], "p"}, xs[at%260:at%260+40]...), versions...))
		l = append(l, order(xs[at%300], ts...), match(true, "p", xs[at%300], ts...), want("s", at%16))
	}
	h := historyOf(t, l)
	if len(h.Events) != 3000 || len(h.Orders) != 3000 || len(h.Matches) != 3000 || len(h.Wants) != 3000 || history.Check(h) != api.OK {
		t.Errorf("it is %d, %d, %d, %d", len(h.Events), len(h.Orders), len(h.Matches), len(h.Wants))
	}
}
