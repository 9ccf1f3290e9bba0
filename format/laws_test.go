package format_test

import (
	"slices"
	"strings"
	"testing"

	"yardarm/api"
	"yardarm/format"
	"yardarm/history"
	"yardarm/line"
)

// read of the lines, of which none is too much.
func historyOf(t *testing.T, l []api.Line) api.History {
	t.Helper()
	h, at, err := format.Of(l)
	if at != len(l) || err != api.OK {
		t.Errorf("Of %s is %d, %d", short(text(l)), at, err)
	}
	return h
}

// P13.4: what is read may be.
func TestMayBe(t *testing.T) {
	for seed := range int64(300) {
		d := newDrawer(seed, 1+int(seed)%7)
		h := historyOf(t, d.lines(60))
		if err := history.Check(h); err != api.OK {
			t.Errorf("Check of %v is %d", h, err)
		}
		h, _, _ = format.Read(text(d.lines(60)))
		if err := history.Check(h); err != api.OK {
			t.Errorf("Check of %v is %d", h, err)
		}
	}
}

// P13.4: lines of Kind 0 change nothing.
func TestNothing(t *testing.T) {
	for seed := range int64(100) {
		d := newDrawer(seed, 3)
		l := d.lines(20)
		want := historyOf(t, l)
		bare := slices.DeleteFunc(slices.Clone(l), func(x api.Line) bool { return x.Kind == 0 })
		if got := historyOf(t, bare); !history.Same(got, want) {
			t.Errorf("without its lines of Kind 0 %s is %v, not %v", short(text(l)), got, want)
		}
		for range 5 {
			l = slices.Insert(l, d.Intn(len(l)+1), api.Line{})
			if got := historyOf(t, l); !history.Same(got, want) {
				t.Errorf("Of %s is %v, not %v", short(text(l)), got, want)
			}
		}
		full := "  \n# a remark\n" + strings.ReplaceAll(text(l), "\n", " # commit T\n\n\t\n")
		got, at, err := format.Read(full)
		if !history.Same(got, want) || at != len(full) || err != api.OK {
			t.Errorf("Read of %s is %v, %d, %d; not %v", short(full), got, at, err, want)
		}
	}
}

// sorted tells which of the lines have to stay in order.
func sorted(l api.Line) int {
	if l.Kind >= api.EvBegin && l.Kind <= api.EvAbort {
		return api.EvBegin
	}
	return l.Kind
}

// P13.4: it does not matter where between the others the lines of rows stand, as long as those of a kind stay in order.
func TestBetween(t *testing.T) {
	for seed := range int64(200) {
		d := newDrawer(seed, 3)
		l := d.lines(30)
		want := historyOf(t, l)
		for range 10 {
			for range 40 {
				if len(l) < 2 {
					break
				}
				if at := d.Intn(len(l) - 1); sorted(l[at]) != sorted(l[at+1]) {
					l[at], l[at+1] = l[at+1], l[at]
				}
			}
			if got := historyOf(t, l); !history.Same(got, want) || !equal(got, want) {
				t.Errorf("Of %s is %v, not %v", short(text(l)), got, want)
			}
		}
		l = slices.Clone(l)
		slices.SortStableFunc(l, func(a, b api.Line) int { return sorted(b) - sorted(a) })
		if got := historyOf(t, l); !history.Same(got, want) {
			t.Errorf("with rows ahead of events %s is %v, not %v", short(text(l)), got, want)
		}
	}
}

// P13.4: the text of lines is read as these lines, and as their history.
func TestReadBack(t *testing.T) {
	for seed := range int64(200) {
		d := newDrawer(seed, 12)
		l := d.lines(60)
		s := text(l)
		got, begins, at, err := format.Lines(s)
		if !slices.EqualFunc(got, l, line.Same) || len(begins) != len(l) || at != len(s) || err != api.OK {
			t.Errorf("Lines of %s is %v, %v, %d, %d", short(s), got, begins, at, err)
		}
		for n, begin := range begins {
			if one := text(l[n : n+1]); !strings.HasPrefix(s[begin:], one) {
				t.Errorf("at %d of %s no %q begins", begin, short(s), one)
			}
		}
		h, at, err := format.Read(s)
		if want := historyOf(t, l); !history.Same(h, want) || at != len(s) || err != api.OK {
			t.Errorf("Read of %s is %v, %d, %d; not %v", short(s), h, at, err, want)
		}
	}
}

// P13.1: what is behind a fault changes nothing.
func TestBehindFault(t *testing.T) {
	for seed := range int64(100) {
		d := newDrawer(seed, 3)
		s := text(d.lines(8)) + []string{"bex", "read T x T.1000", "\xff", "commit T T"}[seed%4]
		_, _, at, err := format.Lines(s)
		for _, behind := range []string{"\n", "\nbex", "\nread T x T.1000\n", "\n\xff", " $"} {
			if _, _, place, no := format.Lines(s + behind); place != at || no != err {
				t.Errorf("Lines of %s is %d, %d; with %q behind it %d, %d", short(s), at, err, behind, place, no)
			}
			if _, place, no := format.Read(s + behind); place != at || no != err {
				t.Errorf("Lines of %s is %d, %d; with %q behind it Read is %d, %d", short(s), at, err, behind, place, no)
			}
		}
	}
}
