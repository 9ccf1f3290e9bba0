package print_test

import (
	"math/rand"
	"slices"
	"testing"

	"yardarm/api"
	"yardarm/history"
	"yardarm/print"
)

// plain is the chapter's own history.
func plain() api.History {
	return api.History{
		Transactions: []string{"T0"}, Sessions: []string{"s"}, Objects: []string{"x"},
		Events: []api.Event{begin(0, 0, 3), write(0, 0, 1), read(0, 0, ver(0, 1)), commit(0)},
		Orders: []api.Order{{Ts: []int{0}}}, Wants: []api.Want{{Bits: api.GuMr}},
	}
}

// rich has all that a history can have, may be, and is not counted.
func rich() api.History {
	return api.History{
		Transactions: []string{"t", "u", "v", "w", "a", "b"},
		Sessions:     []string{"s", "t", "é"},
		Objects:      []string{"x", "y", "z", "o", "n"},
		Predicates:   []string{"p", "x", "r"},
		Events: []api.Event{
			begin(0, 0, 1), write(0, 0, 1), read(1, 1, ver(2, 999)), begin(1, 1, 4),
			scan(1, 0, seen(0, first), seen(2, ver(3, 1)), seen(2, ver(0, 7))), scan(2, 1),
			read(0, 2, first), begin(0, 1, 3), write(3, 1, 999), commit(0), abort(1), commit(0), write(0, 0, 2), begin(2, 0, 2),
		},
		Orders:  []api.Order{{Object: 0, Ts: []int{1, 0, 1}}, {Object: 3, Ts: []int{4}}, {Object: 0}},
		Matches: []api.Match{{Predicate: 2, Object: 4, First: true, Ts: []int{5, 0}}, {Predicate: 0, Object: 1}, {First: true}, {Ts: []int{3}}},
		Wants:   []api.Want{{Session: 1, Bits: 15}, {Session: 2, Bits: 0}, {Session: 2, Bits: 6}},
	}
}

// richText is the text of rich.
const richText = "begin t s 1\nwrite t x\nread u y v.999\nbegin u t 3\nscan u p x - z w.1 z t.7\nscan v x\nread t z -\nbegin t t 2.99\n" +
	"write w y\ncommit t\nabort u\ncommit t\nwrite t x\nbegin v s 2\n" +
	"order x u t u\norder o a\norder x\nmatch r n - b t\nmatch p y\nmatch p x -\nmatch p x w\nwant t ryw mr mw wfr\nwant é\nwant é mr mw\n"

// P14.2: the texts of histories.
func TestText(t *testing.T) {
	for want, h := range map[string]api.History{
		"begin T0 s 2.99\nwrite T0 x\nread T0 x T0.1\ncommit T0\norder x T0\nwant s mr\n": plain(),
		"":           {},
		richText:     rich(),
		"order x\n":  {Objects: []string{"x"}, Orders: []api.Order{{}}},
		"want s\n":   {Sessions: []string{"s"}, Wants: []api.Want{{}}},
		"abort é\n":  {Transactions: []string{"é"}, Events: []api.Event{abort(0)}},
		"scan t t\n": {Transactions: []string{"t"}, Predicates: []string{"t"}, Events: []api.Event{scan(0, 0)}},
		// What is told of rows stands behind what is told of events, whatever its numbers are.
		"commit t\norder y t\norder x u\nmatch q x\nmatch p z\nwant b wfr\nwant a ryw\n": {
			Transactions: []string{"t", "u"}, Sessions: []string{"b", "a"}, Objects: []string{"y", "x", "z"}, Predicates: []string{"q", "p"},
			Events: []api.Event{commit(0)}, Orders: []api.Order{{Ts: []int{0}}, {Object: 1, Ts: []int{1}}},
			Matches: []api.Match{{Object: 1}, {Predicate: 1, Object: 2}}, Wants: []api.Want{{Bits: 8}, {Session: 1, Bits: 1}},
		},
		// Of a write the version is not told.
		"write t x\nwrite t x\n": {Transactions: []string{"t"}, Objects: []string{"x"}, Events: []api.Event{write(0, 0, 999), write(0, 0, 999)}},
	} {
		if s, err := print.Text(h); s != want || err != api.OK {
			t.Errorf("Text of %v is %q, %d; not %q", h, s, err, want)
		}
		check(t, h)
	}
}

// P14.1: the lines of a history.
func TestLines(t *testing.T) {
	of := func(kind int, names ...string) api.Line { return api.Line{Kind: kind, Names: names} }
	told := func(l api.Line, v ...api.Told) api.Line { l.Versions = v; return l }
	at := func(l api.Line, level int) api.Line { l.Level = level; return l }
	or := func(l api.Line) api.Line { l.First = true; return l }
	asks := func(l api.Line, bits int) api.Line { l.Bits = bits; return l }
	none, v := api.Told{}, func(name string, k int) api.Told { return api.Told{Name: name, K: k} }
	want := []api.Line{
		at(of(1, "t", "s"), 1), of(2, "t", "x"), told(of(3, "u", "y"), v("v", 999)), at(of(1, "u", "t"), 4),
		told(of(4, "u", "p", "x", "z", "z"), none, v("w", 1), v("t", 7)), of(4, "v", "x"),
		told(of(3, "t", "z"), none), at(of(1, "t", "t"), 3), of(2, "w", "y"), of(5, "t"), of(6, "u"), of(5, "t"), of(2, "t", "x"), at(of(1, "v", "s"), 2),
		of(7, "x", "u", "t", "u"), of(7, "o", "a"), of(7, "x"),
		or(of(8, "r", "n", "b", "t")), of(8, "p", "y"), or(of(8, "p", "x")), of(8, "p", "x", "w"),
		asks(of(9, "t"), 15), of(9, "é"), asks(of(9, "é"), 6),
	}
	if l, err := print.Lines(rich()); !equal(l, want) || err != api.OK {
		t.Errorf("Lines of %v is %v, %d; not %v", rich(), l, err, want)
	}
	if l, err := print.Lines(api.History{}); len(l) != 0 || err != api.OK {
		t.Errorf("Lines of nothing is %v, %d", l, err)
	}
	if l, err := print.Lines(plain()); len(l) != 6 || l[4].Kind != api.LnOrder || err != api.OK {
		t.Errorf("Lines of %v is %v, %d", plain(), l, err)
	}
}

// P14.3: which histories are counted, and what they are, counted.
func TestCount(t *testing.T) {
	of := func(l ...api.Event) api.History {
		return api.History{Transactions: []string{"t", "u"}, Objects: []string{"x", "y"}, Events: append([]api.Event{read(0, 0, first), read(1, 1, first)}, l...)}
	}
	r := read(0, 0, ver(0, 2))
	for _, c := range []struct{ h, want api.History }{
		{api.History{}, api.History{}},
		{of(), of()},
		{of(write(0, 0, 1)), of(write(0, 0, 1))},
		{of(write(0, 0, 2)), of(write(0, 0, 1))},
		{of(write(0, 0, 999)), of(write(0, 0, 1))},
		{of(write(0, 0, 2), write(0, 0, 1)), of(write(0, 0, 1), write(0, 0, 2))},
		{of(write(0, 0, 1), write(0, 0, 1)), of(write(0, 0, 1), write(0, 0, 2))},
		{of(write(0, 0, 1), write(0, 0, 3)), of(write(0, 0, 1), write(0, 0, 2))},
		{of(write(0, 0, 1), write(1, 0, 2)), of(write(0, 0, 1), write(1, 0, 1))},
		{of(write(0, 0, 1), write(0, 1, 2)), of(write(0, 0, 1), write(0, 1, 1))},
		{of(write(0, 1, 5), write(1, 0, 5)), of(write(0, 1, 1), write(1, 0, 1))},
		{of(write(0, 0, 1), abort(0), write(0, 0, 1), commit(0)), of(write(0, 0, 1), abort(0), write(0, 0, 2), commit(0))},
		// What is read, or scanned, stays as it is.
		{of(r, write(0, 0, 2), r), of(r, write(0, 0, 1), r)},
		{of(write(0, 0, 1), r, write(0, 0, 2)), of(write(0, 0, 1), r, write(0, 0, 2))},
	} {
		got, err := print.Count(c.h)
		if !equal(got, c.want) || err != api.OK {
			t.Errorf("Count of %v is %v, %d; not %v", c.h, got, err, c.want)
		}
		if is := print.Counted(c.h); is != equal(c.h, c.want) {
			t.Errorf("Counted of %v is %v", c.h, is)
		}
		check(t, c.h)
	}
	if print.Counted(rich()) || !print.Counted(plain()) {
		t.Errorf("Counted of the histories is %v, %v", print.Counted(rich()), print.Counted(plain()))
	}
}

// P14.1 to P14.3, R2: histories that may not be.
func TestWrong(t *testing.T) {
	for n, bad := range []func(h *api.History){
		func(h *api.History) { h.Objects = append(h.Objects, "new") },
		func(h *api.History) { h.Objects[0], h.Objects[1] = "1", "y" },
		func(h *api.History) { h.Transactions[1] = "t" },
		func(h *api.History) { h.Sessions[0] = "" },
		func(h *api.History) { h.Predicates = h.Predicates[:2] },
		func(h *api.History) { h.Transactions = nil },
		func(h *api.History) { h.Events[0].Kind = 0 },
		func(h *api.History) { h.Events[0].Kind = 7 },
		func(h *api.History) { h.Events[0].T = -1 },
		func(h *api.History) { h.Events[0].T = 6 },
		func(h *api.History) { h.Events[0].Level = 0 },
		func(h *api.History) { h.Events[0].Object = 1 },
		func(h *api.History) { h.Events[1].Version.T = 1 },
		func(h *api.History) { h.Events[1].Version = first },
		func(h *api.History) { h.Events[1].Version.K = 1000 },
		func(h *api.History) { h.Events[2].Version.K = -1 },
		func(h *api.History) { h.Events[4].Scan[1].Object = 5 },
		func(h *api.History) { h.Events[4].Scan = slices.Repeat(h.Events[4].Scan, 14) },
		func(h *api.History) { h.Orders[0].Ts[0] = 6 },
		func(h *api.History) { h.Orders[0].Object = -1 },
		func(h *api.History) { h.Matches[0].Predicate = 3 },
		func(h *api.History) { h.Wants[0].Bits = 16 },
		func(h *api.History) { h.Wants[0].Session = 3 },
		func(h *api.History) { slices.Reverse(h.Events) },
		func(h *api.History) { h.Orders = slices.Repeat(h.Orders, 1001) },
	} {
		h := rich()
		bad(&h)
		if history.Check(h) == api.OK {
			t.Errorf("the history %d may be", n)
		}
		checkWrong(t, h)
	}
	checkWrong(t, api.History{Objects: []string{"x"}})
}

// The chapter's errors and kinds.
func TestConstants(t *testing.T) {
	got := []int{int(api.OK), int(api.ErrLong), int(api.ErrFull), int(api.ErrHistory), api.MaxText, api.MaxWrites, api.LnOrder, api.LnMatch, api.LnWant}
	if want := []int{0, 3, 6, 210, 131072, 999, 7, 8, 9}; !slices.Equal(got, want) {
		t.Errorf("the constants are %v, not %v", got, want)
	}
}

// P14.1 to P14.3: all short rows of few events.
func TestShort(t *testing.T) {
	kinds := []api.Event{
		begin(0, 0, 1), begin(1, 0, 4), write(0, 0, 1), write(0, 0, 2), write(0, 1, 1), write(1, 0, 1), write(1, 1, 3), read(0, 0, first), read(1, 1, ver(0, 3)),
		scan(0, 0, seen(1, first), seen(0, ver(1, 1))), scan(1, 0), commit(0), commit(1), abort(0),
	}
	of := func(l ...api.Event) api.History {
		h, _ := history.Number(api.History{
			Transactions: []string{"t", "u"}, Sessions: []string{"s"}, Objects: []string{"x", "y"}, Predicates: []string{"p"}, Events: l,
		})
		return h
	}
	for _, a := range kinds {
		check(t, of(a))
		for _, b := range kinds {
			check(t, of(a, b))
			for _, c := range kinds {
				check(t, of(a, b, c))
			}
		}
	}
}

// P14.1 to P14.3: histories that are drawn, and such as may not be.
func TestDrawn(t *testing.T) {
	values := []int{-1, 0, 1, 2, 3, 4, 5, 6, 7, 8, 15, 16, 998, 999, 1000, 1 << 32}
	for seed := range int64(800) {
		r := rand.New(rand.NewSource(seed))
		h := drawn(r, 30, 1+int(seed)%4)
		check(t, h)
		all := ints(&h)
		for range min(10, len(all)) {
			at := all[r.Intn(len(all))]
			old := *at
			*at = values[r.Intn(len(values))]
			check(t, h)
			*at = old
		}
	}
}
