package format_test

import (
	"slices"
	"strings"
	"testing"

	"yardarm/api"
	"yardarm/format"
)

// P13.3: the chapter's examples, and their likes.
func TestExamples(t *testing.T) {
	ev := func(kind, level int) api.Event { return api.Event{Kind: kind, Level: level} }
	wrote := api.Event{Kind: 2, Version: api.Version{K: 1}}
	for s, want := range map[string]api.History{
		"begin t s 1\nwrite t x\ncommit t\norder x t\n": {
			Transactions: []string{"t"}, Sessions: []string{"s"}, Objects: []string{"x"},
			Events: []api.Event{ev(1, 1), wrote, ev(5, 0)}, Orders: []api.Order{{Ts: []int{0}}},
		},
		"order x t\nbegin t s 1\nwrite t x": {
			Transactions: []string{"t"}, Sessions: []string{"s"}, Objects: []string{"x"},
			Events: []api.Event{ev(1, 1), wrote}, Orders: []api.Order{{Ts: []int{0}}},
		},
		"":                     {},
		"\n":                   {},
		" # only a remark":     {},
		"\t\n\n# begin t s 1":  {},
		"abort x # \ncommit x": {Transactions: []string{"x"}, Events: []api.Event{ev(6, 0), ev(5, 0)}},
		"want b ryw mr mw\nwant a\nwant b mw": {
			Sessions: []string{"b", "a"}, Wants: []api.Want{{Bits: 7}, {Session: 1}, {Bits: 4}},
		},
		// What stands in rows ahead of events is numbered behind them.
		"order y t2 t1 t2\nmatch q y - t3\nscan t1 p x t4.7 y -\nread t4 y t1.999": {
			Transactions: []string{"t1", "t4", "t2", "t3"}, Objects: []string{"x", "y"}, Predicates: []string{"p", "q"},
			Events: []api.Event{
				{Kind: 4, Scan: []api.Seen{{Version: api.Version{T: 1, K: 7}}, {Object: 1}}},
				{Kind: 3, T: 1, Object: 1, Version: api.Version{K: 999}},
			},
			Orders:  []api.Order{{Object: 1, Ts: []int{2, 0, 2}}},
			Matches: []api.Match{{Predicate: 1, Object: 1, First: true, Ts: []int{3}}},
		},
		"match p x\norder y\nwant z": {
			Sessions: []string{"z"}, Objects: []string{"y", "x"}, Predicates: []string{"p"},
			Orders: []api.Order{{}}, Matches: []api.Match{{Object: 1}}, Wants: []api.Want{{}},
		},
		// Writes are counted by who writes, and what.
		"write a x\nwrite a y\nwrite b x\nwrite a x\nwrite b x\nwrite a x": {
			Transactions: []string{"a", "b"}, Objects: []string{"x", "y"},
			Events: []api.Event{
				wrote, {Kind: 2, Object: 1, Version: api.Version{K: 1}}, {Kind: 2, T: 1, Version: api.Version{T: 1, K: 1}},
				{Kind: 2, Version: api.Version{K: 2}}, {Kind: 2, T: 1, Version: api.Version{T: 1, K: 2}}, {Kind: 2, Version: api.Version{K: 3}},
			},
		},
		// A name of one sort is none of another one.
		"scan a a a a.1 a -\nbegin a a 2.99": {
			Transactions: []string{"a"}, Sessions: []string{"a"}, Objects: []string{"a"}, Predicates: []string{"a"},
			Events: []api.Event{{Kind: 4, Scan: []api.Seen{{Version: api.Version{K: 1}}, {}}}, ev(1, 3)},
		},
	} {
		h, at, err := format.Read(s)
		if !equal(h, want) || at != len(s) || err != api.OK {
			t.Errorf("Read(%q) is %v, %d, %d; not %v", s, h, at, err, want)
		}
		checkText(t, s)
	}
}

// P13.1: the lines, and where each begins.
func TestLines(t *testing.T) {
	for s, want := range map[string]struct {
		l      []api.Line
		begins []int
	}{
		"":                              {},
		"\n":                            {[]api.Line{{}}, []int{0}},
		" ":                             {[]api.Line{{}}, []int{0}},
		"\n\n":                          {[]api.Line{{}, {}}, []int{0, 1}},
		"\n ":                           {[]api.Line{{}, {}}, []int{0, 1}},
		"commit T":                      {[]api.Line{commit("T")}, []int{0}},
		"commit T\n":                    {[]api.Line{commit("T")}, []int{0}},
		"commit T\n\n":                  {[]api.Line{commit("T"), {}}, []int{0, 9}},
		" commit é#é\n\twrite T x":      {[]api.Line{commit("é"), write("T", "x")}, []int{0, 14}},
		"want s mr\nread t x -\n#":      {[]api.Line{want("s", 2), read("t", "x", none), {}}, []int{0, 10, 21}},
		"order x T x\nmatch T x - x U":  {[]api.Line{order("x", "T", "x"), match(true, "T", "x", "x", "U")}, []int{0, 12}},
		"scan T P x - y T.3\nabort P\n": {[]api.Line{scan([]string{"T", "P", "x", "y"}, none, told("T", 3)), abort("P")}, []int{0, 19}},
	} {
		l, begins, at, err := format.Lines(s)
		if !equal(l, want.l) || !slices.Equal(begins, want.begins) || at != len(s) || err != api.OK {
			t.Errorf("Lines(%q) is %v, %v, %d, %d; not %v, %v", s, l, begins, at, err, want.l, want.begins)
		}
		checkText(t, s)
	}
}

// P13.1, P13.3, R2: where a text goes wrong first, and how; nothing else is told then.
func TestWrong(t *testing.T) {
	for s, want := range map[string]struct {
		at  int
		err api.Errno
	}{
		"begin t s 1\nbex":                        {14, 220},
		"bex":                                     {2, 220},
		"\nbex":                                   {3, 220},
		"commit T\r\n":                            {8, 220},
		"commit T\nx\nread T x T.1000":            {9, 220},
		"commit T\nread T x T.1000\nx":            {20, 3},
		"read T x T.1000":                         {11, 3},
		"commit T\n\xff":                          {9, 220},
		"commit T\nbegin":                         {14, 220},
		"commit T\nbegin\n":                       {14, 220},
		"commit T\nbegin \nT s 1":                 {15, 220},
		"commit T\n commit T T":                   {19, 220},
		"order x" + strings.Repeat(" t", 301):     {608, 3},
		"scan T P" + strings.Repeat(" x -", 41):   {169, 3},
		"\nmatch P x" + strings.Repeat(" T", 301): {611, 3},
	} {
		if l, begins, at, err := format.Lines(s); l != nil || begins != nil || at != want.at || err != want.err {
			t.Errorf("Lines(%s) is %v, %v, %d, %d; not %d, %d", short(s), l, begins, at, err, want.at, want.err)
		}
		if h, at, err := format.Read(s); !equal(h, api.History{}) || at != want.at || err != want.err {
			t.Errorf("Read(%s) is %v, %d, %d; not %d, %d", short(s), h, at, err, want.at, want.err)
		}
		checkText(t, s)
	}
}

// P13.2, R2: the first line that may not be, and where it stands in the row.
func TestWrongLines(t *testing.T) {
	bad := []api.Line{
		{Kind: 99}, {Kind: -1}, {Kind: 10}, {Kind: 1 << 40}, {Names: []string{"T"}}, {First: true}, {Level: 1}, {Bits: 1}, {Versions: []api.Told{none}},
		begin("T", "s", 0), begin("T", "s", 5), begin("T", "1", 1), of(1, "T"), write("", "x"), write("T", "x y"), of(2, "T"), of(2, "T", "x", "y"),
		of(3, "T", "x"), read("T", "x", told("T", 0)), read("T", "x", told("", 1)), read("T", "x", told("T", 1000)), read("T", "x", told("T", -1)),
		scan([]string{"T"}), scan([]string{"T", "P", "x"}), scan([]string{"T", "P"}, none), of(5), of(6, "T", "T"), of(7), order("x", "1"), of(8, "P"),
		match(true, "P", "x", "T."), want("s", 16), want("s", -1), of(9), of(7, many("t", 302)...), scan(many("x", 43), make([]api.Told, 41)...),
	}
	for _, x := range bad {
		for _, ahead := range [][]api.Line{nil, {{}}, {commit("T"), write("T", "x"), {}}} {
			for _, behind := range [][]api.Line{nil, {{}}, {commit("T"), {Kind: 99}}} {
				l := slices.Concat(ahead, []api.Line{x}, behind)
				if h, at, err := format.Of(l); !equal(h, api.History{}) || at != len(ahead) || err != api.ErrLine {
					t.Errorf("Of(%v) is %v, %d, %d; not %d, ErrLine", l, h, at, err, len(ahead))
				}
				checkOf(t, l)
			}
		}
	}
	if h, at, err := format.Of(nil); !equal(h, api.History{}) || at != 0 || err != api.OK {
		t.Errorf("Of nothing is %v, %d, %d", h, at, err)
	}
}

// The chapter's limit and errors.
func TestConstants(t *testing.T) {
	got := []int{api.MaxText, int(api.OK), int(api.ErrLong), int(api.ErrFull), int(api.ErrLine)}
	if want := []int{131072, 0, 3, 6, 220}; !slices.Equal(got, want) {
		t.Errorf("the constants are %v, not %v", got, want)
	}
}

// P13.2: all short rows of lines of few names.
func TestShort(t *testing.T) {
	kinds := []api.Line{
		{}, begin("b", "b", 1), begin("a", "s", 4), write("a", "x"), write("b", "x"), write("a", "b"), read("b", "a", none), read("a", "x", told("b", 2)),
		scan([]string{"b", "a"}), scan([]string{"a", "x", "b", "x"}, told("c", 1), none), commit("a"), abort("b"), order("x", "b", "a"), order("b"),
		match(false, "b", "x", "c"), match(true, "a", "a"), want("b", 3), want("s", 0), {Kind: 5}, {Kind: 10},
	}
	for _, a := range kinds {
		checkOf(t, []api.Line{a})
		for _, b := range kinds {
			checkOf(t, []api.Line{a, b})
			for _, c := range kinds {
				checkOf(t, []api.Line{a, b, c})
			}
		}
	}
}

// P13.2, P13.3: rows of lines that are drawn, some of which may not be; and their texts.
func TestDrawn(t *testing.T) {
	for seed := range int64(600) {
		d := newDrawer(seed, 1+int(seed)%5)
		l := d.lines(40)
		checkOf(t, l)
		checkText(t, text(l))
		for range d.Intn(3) {
			l = slices.Insert(l, d.Intn(len(l)+1), d.wrong())
		}
		checkOf(t, l)
	}
}

// P13.1, P13.3, R1: texts in which more and more is changed.
func TestChanged(t *testing.T) {
	pieces := []string{" ", "\n", "\n\n", "\t", "#", "-", ".", "0", "1", "9", "a", "é", "\xff", "\xc3", "$", "\r", " T1", " x0", "commit T\n", "\nread T x T.1000", "want"}
	for seed := range int64(300) {
		d := newDrawer(seed, 3)
		s := text(d.lines(12))
		for range 8 {
			at := d.Intn(len(s) + 1)
			switch d.Intn(3) {
			case 0:
				s = s[:at] + pieces[d.Intn(len(pieces))] + s[at:]
			case 1:
				s = s[:at] + s[min(len(s), at+1+d.Intn(4)):]
			case 2:
				s = s[:at] + " # " + strings.Repeat("é", d.Intn(3)) + "\n" + s[at:]
			}
			checkText(t, s)
		}
	}
}
