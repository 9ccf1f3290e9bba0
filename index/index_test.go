package index_test

import (
	"math/rand"
	"slices"
	"strings"
	"testing"

	"yardarm/api"
	"yardarm/history"
	"yardarm/index"
)

// chapter is the text of the chapter's own history.
const chapter = "begin T0 s 1\nbegin T1 s 2\nbegin T2 s 3\nwrite T0 x\nwrite T0 x\nread T1 x -\nwrite T1 x\nwrite T2 x\ncommit T0\ncommit T1\norder x T1 T0\n"

// P16.2 to P16.4: the chapter's examples.
func TestExamples(t *testing.T) {
	h := read(t, chapter)
	check(t, h)
	if l, err := index.Committed(h); !slices.Equal(l, []int{0, 1}) || err != 0 {
		t.Errorf("Committed is %v, %d", l, err)
	}
	if l, err := index.Installed(h, 0); !slices.Equal(l, []int{1, 0}) || err != 0 {
		t.Errorf("Installed is %v, %d", l, err)
	}
	if v, at, is := index.Final(h, 0, 0); v != ver(0, 2) || at != 4 || !is {
		t.Errorf("Final is %v, %d, %v", v, at, is)
	}
	for v, want := range map[api.Version]int{ver(0, 2): 2, ver(0, 1): -1, first: 0, ver(1, 1): 1, ver(2, 1): -1} {
		if rank, is := index.Rank(h, 0, v); rank != max(want, 0) || is != (want >= 0) {
			t.Errorf("Rank of %v is %d, %v; not %d", v, rank, is, want)
		}
	}
	for rank, want := range []int{1, 0, -1} {
		if n, is := index.Next(h, 0, rank); n != max(want, 0) || is != (want >= 0) {
			t.Errorf("Next of %d is %d, %v; not %d", rank, n, is, want)
		}
	}
}

// The chapter's errors, as constants.
func TestConstants(t *testing.T) {
	if api.ErrArg != 2 || api.ErrHistory != 210 || api.ErrRule != 250 {
		t.Error("an error has another number")
	}
}

// P16.2: who has committed is told by numbers, however they end.
func TestCommitted(t *testing.T) {
	for text, want := range map[string][]int{
		"":                              nil,
		"begin t s 1\n":                 nil,
		"begin t s 1\nabort t\n":        nil,
		"begin t s 1\ncommit t\n":       {0},
		"begin t s 1\nbegin u s 1\n":    nil,
		"begin t s 1\nwrite t x\n":      nil,
		"begin t s 1\nread t x -\n":     nil,
		"begin t s 1\nscan t p x - y -": nil,
		"begin t s 1\nbegin u s 1\nbegin v s 1\ncommit v\nabort u\ncommit t\n":                {0, 2},
		"begin t s 1\nbegin u s 1\nbegin v s 1\ncommit v\ncommit u\n":                         {1, 2},
		"begin t s 1\nwrite t x\nabort t\nbegin u s 1\nread u x t.1\ncommit u\nbegin v s 1\n": {1},
	} {
		h := read(t, text)
		if l, err := index.Committed(h); !slices.Equal(l, want) || err != 0 {
			t.Errorf("Committed of %q is %v, %d; not %v", text, l, err, want)
		}
		check(t, h)
	}
}

// P16.2: of whom a begin tells the session, and the level, whether they have committed or not.
func TestBegun(t *testing.T) {
	h := read(t, "begin t s 1\nbegin u r 2\ncommit u\nbegin v s 2.99\nabort v\nbegin w q 3\nwrite w x\ncommit w\n")
	for n, want := range [][2]int{{0, 1}, {1, 2}, {0, 3}, {2, 4}} {
		if s, l, err := index.Begun(h, n); s != want[0] || l != want[1] || err != 0 {
			t.Errorf("Begun of %d is %d, %d, %d; not %v", n, s, l, err, want)
		}
	}
	for _, n := range []int{least, -1, 4, 300, most} {
		if s, l, err := index.Begun(h, n); s != 0 || l != 0 || err != 2 {
			t.Errorf("Begun of %d is %d, %d, %d", n, s, l, err)
		}
	}
	check(t, h)
	check(t, api.History{})
}

// P16.2: a line is as they begin, not as they commit, and of that session alone.
func TestLine(t *testing.T) {
	h := read(t, "begin t s 1\nbegin u r 1\nbegin v s 1\nbegin w s 1\nbegin y s 1\nbegin z q 1\ncommit y\ncommit v\ncommit u\ncommit t\nabort w\n")
	for s, want := range [][]int{{0, 2, 4}, {1}, nil} {
		if l, err := index.Line(h, s); !slices.Equal(l, want) || err != 0 {
			t.Errorf("Line of %d is %v, %d; not %v", s, l, err, want)
		}
	}
	for _, s := range []int{least, -1, 3, 60, most} {
		if l, err := index.Line(h, s); l != nil || err != 2 {
			t.Errorf("Line of %d is %v, %d", s, l, err)
		}
	}
	check(t, h)
}

// P16.3, P16.4: without an order there is one installer at most; with one they stand as it has them, in whatever row it is.
func TestInstalled(t *testing.T) {
	three := "begin t s 1\nbegin u s 1\nbegin v s 1\nbegin w s 1\nwrite t x\nwrite u x\nwrite v x\nwrite u x\nwrite w x\nwrite w y\nwrite v z\nwrite v z\ncommit v\ncommit t\ncommit u\nabort w\n"
	for text, want := range map[string][][]int{
		"begin t s 1\nread t x -\ncommit t\n":                                     {nil},
		"begin t s 1\nwrite t x\n":                                                {nil},
		"begin t s 1\nwrite t x\nabort t\n":                                       {nil},
		"begin t s 1\nwrite t x\nabort t\norder x\n":                              {nil},
		"begin t s 1\nwrite t x\ncommit t\n":                                      {{0}},
		"begin t s 1\nwrite t x\ncommit t\norder x t\n":                           {{0}},
		"begin t s 1\nbegin u s 1\nwrite t x\nwrite u x\nwrite u x\ncommit u\n":   {{1}},
		"begin t s 1\nbegin u s 1\nwrite t x\nwrite u y\ncommit u\ncommit t\n":    {{0}, {1}},
		"begin t s 1\nscan t p y - x -\ncommit t\norder z\nmatch p x -\nwant s\n": {nil, nil, nil},
		three + "order x t u v\n":                                                 {{0, 1, 2}, nil, {2}},
		three + "order y\norder x v u t\n":                                        {{2, 1, 0}, nil, {2}},
		three + "order z v\norder x u v t\norder y\n":                             {{1, 2, 0}, nil, {2}},
	} {
		h := read(t, text)
		for x, ts := range want {
			if l, err := index.Installed(h, x); !slices.Equal(l, ts) || err != 0 {
				t.Errorf("Installed of %q, %d is %v, %d; not %v", text, x, l, err, ts)
			}
		}
		if l, err := index.Installed(h, len(want)); l != nil || err != 2 {
			t.Errorf("Installed of %q, %d is %v, %d", text, len(want), l, err)
		}
		check(t, h)
	}
}

// P16.3: of whoever has written the last write is told, and where it stands.
func TestFinal(t *testing.T) {
	h := read(t, "begin t s 1\nwrite t x\nwrite t y\nwrite t x\nbegin u s 1\nread u x t.1\nwrite u x\nwrite t x\nabort t\nbegin v s 1\nscan v p x t.2\nwrite v y\nread v y v.1\ncommit v\n")
	type final struct{ n, x, k, at int }
	for _, c := range []final{{0, 0, 3, 7}, {0, 1, 1, 2}, {1, 0, 1, 6}, {1, 1, 0, 0}, {2, 0, 0, 0}, {2, 1, 1, 11}, {3, 0, 0, 0}, {0, 2, 0, 0}, {-1, 0, 0, 0}, {0, -1, 0, 0}} {
		want := first
		if c.k > 0 {
			want = ver(c.n, c.k)
		}
		if v, at, is := index.Final(h, c.n, c.x); v != want || at != c.at || is != (c.k > 0) {
			t.Errorf("Final of %v is %v, %d, %v", c, v, at, is)
		}
	}
	check(t, h)
}

// P16.4: what has a rank is a first, or a final version of an installer, and of that object.
func TestRank(t *testing.T) {
	h := read(t, "begin t s 1\nbegin u s 1\nbegin v s 1\nwrite t x\nwrite t y\nwrite u x\nwrite u x\nwrite v x\nwrite t x\nwrite t x\ncommit u\ncommit t\nabort v\norder x u t\n")
	for x, want := range []map[api.Version]int{{first: 0, ver(1, 2): 1, ver(0, 3): 2}, {first: 0, ver(0, 1): 1}, {}} {
		for n := -1; n <= 4; n++ {
			for k := -1; k <= 5; k++ {
				v := ver(n, k)
				rank, has := want[v]
				if got, is := index.Rank(h, x, v); got != rank || is != has {
					t.Errorf("Rank of %v of %d is %d, %v", v, x, got, is)
				}
			}
		}
	}
	for _, x := range []int{least, -1, 2, most} {
		if rank, is := index.Rank(h, x, first); rank != 0 || is {
			t.Errorf("Rank of the first version of %d is %d, %v", x, rank, is)
		}
		if n, is := index.Next(h, x, 0); n != 0 || is {
			t.Errorf("Next of %d is %d, %v", x, n, is)
		}
	}
	for rank, want := range map[int]int{least: -1, -2: -1, -1: -1, 0: 1, 1: 0, 2: -1, 3: -1, most - 1: -1, most: -1} {
		if n, is := index.Next(h, 0, rank); n != max(want, 0) || is != (want >= 0) {
			t.Errorf("Next of %d is %d, %v; not %d", rank, n, is, want)
		}
	}
	check(t, h)
}

// P16.5: a scan sees what it names, what its own transaction has written ahead of it, and else what there is at first.
func TestSights(t *testing.T) {
	h := read(t, strings.Join([]string{
		"begin t s 1", "begin u s 1", "scan t p", "write u x", "write u x", "scan t p z - x u.1", "write t y", "write t y", "scan t q",
		"scan u p y t.1", "write t y", "write u y", "scan t p y t.3 x u.2", "abort u", "write t z", "scan t p", "read t z t.1", "commit t",
	}, "\n"))
	x, z, y := 0, 1, 2
	for at, want := range map[int][]api.Seen{
		2:  {{Object: x}, {Object: z}, {Object: y}},
		5:  {{Object: x, Version: ver(1, 1)}, {Object: z}, {Object: y}},
		8:  {{Object: x}, {Object: z}, {Object: y, Version: ver(0, 2)}},
		9:  {{Object: x, Version: ver(1, 2)}, {Object: z}, {Object: y, Version: ver(0, 1)}},
		12: {{Object: x, Version: ver(1, 2)}, {Object: z}, {Object: y, Version: ver(0, 3)}},
		15: {{Object: x}, {Object: z, Version: ver(0, 1)}, {Object: y, Version: ver(0, 3)}},
	} {
		if l, err := index.Sights(h, at); !slices.Equal(l, want) || err != 0 {
			t.Errorf("Sights at %d is %v, %d; not %v", at, l, err, want)
		}
	}
	for _, at := range []int{least, -1, 0, 1, 3, 4, 6, 7, 13, 14, 16, 17, 18, 3000, most} {
		if l, err := index.Sights(h, at); l != nil || err != 2 {
			t.Errorf("Sights at %d is %v, %d", at, l, err)
		}
	}
	check(t, h)
	h = read(t, "begin t s 1\nscan t p\n")
	if l, err := index.Sights(h, 1); len(l) != 0 || err != 0 {
		t.Errorf("Sights of no objects is %v, %d", l, err)
	}
}

// P16.1 to P16.5: histories that are not well-formed, by each rule, tell so whatever is asked for.
func TestRules(t *testing.T) {
	two := "begin t s 1\nbegin u s 1\nwrite t x\nwrite u x\ncommit t\ncommit u\n"
	for _, text := range []string{
		"write t x\n", "begin t s 1\nbegin t s 1\n", "begin t s 1\ncommit t\nscan t p\n", "begin t s 1\nread t x t.1\nwrite t x\n",
		"begin t s 1\nwrite t x\nscan t p x -\n", "begin t s 1\nscan t p x - x -\n", two, two + "order x t\n", two + "order x t u\norder x t u\n",
		two + "order x t u\nmatch p x w\n", "begin t s 1\nwant r\n", "order x\norder x\n", "match p x\nmatch p x\n",
	} {
		h := read(t, text)
		if err := index.Check(h); err != 250 {
			t.Errorf("Check of %q is %d", text, err)
		}
		checkWrong(t, h, 250)
	}
	h := read(t, chapter)
	h.Events[3].Version.K = 2
	checkWrong(t, h, 250)
	checkWrong(t, read(t, strings.TrimSuffix(chapter, "order x T1 T0\n")), 250)
}

// P16.1 to P16.5: histories that may not be, well-formed or not, tell so whatever is asked for.
func TestWrong(t *testing.T) {
	for n, bad := range []func(h *api.History){
		func(h *api.History) { h.Objects = append(h.Objects, "new") },
		func(h *api.History) { h.Objects[0] = "1" },
		func(h *api.History) { h.Transactions[1] = "T0" },
		func(h *api.History) { h.Transactions = nil },
		func(h *api.History) { h.Objects = nil },
		func(h *api.History) { h.Sessions = nil },
		func(h *api.History) { h.Events[0].Kind = 7 },
		func(h *api.History) { h.Events[0].T = -1 },
		func(h *api.History) { h.Events[1].T = 300 },
		func(h *api.History) { h.Events[2].Session = most },
		func(h *api.History) { h.Events[0].Level = 5 },
		func(h *api.History) { h.Events[3].Object = least },
		func(h *api.History) { h.Events[3].Version = first },
		func(h *api.History) { h.Events[5].Version = ver(3, 1) },
		func(h *api.History) { h.Events[8].Scan = []api.Seen{{}} },
		func(h *api.History) { h.Events[5] = api.Event{Kind: api.EvScan, T: 1} },
		func(h *api.History) { h.Events = slices.Repeat(h.Events, 301) },
		func(h *api.History) { h.Orders[0].Ts[0] = -1 },
		func(h *api.History) { h.Orders[0].Object = 1 },
		func(h *api.History) { h.Orders = slices.Repeat(h.Orders, 3001) },
		func(h *api.History) { h.Matches = []api.Match{{}} },
		func(h *api.History) { h.Wants = []api.Want{{Bits: 16}} },
	} {
		h := read(t, chapter)
		bad(&h)
		if err := index.Check(h); err != 210 {
			t.Errorf("Check of the history %d is %d", n, err)
		}
		checkWrong(t, h, 210)
	}
	checkWrong(t, api.History{Objects: []string{"x"}}, 210)
	checkWrong(t, api.History{Events: []api.Event{{}}}, 210)
}

// bent tells h with something changed, in such memory of its own as is changed.
func bent(r *rand.Rand, h api.History) api.History {
	h.Events, h.Orders = slices.Clone(h.Events), slices.Clone(h.Orders)
	if len(h.Events) == 0 {
		h.Wants = []api.Want{{}}
		return h
	}
	at := r.Intn(len(h.Events))
	switch e := &h.Events[at]; r.Intn(8) {
	case 0:
		e.T = r.Intn(len(h.Transactions) + 1)
	case 1:
		e.Object = r.Intn(3)
	case 2:
		e.Version = ver(r.Intn(3), r.Intn(3))
	case 3:
		e.Kind = r.Intn(8)
	case 4:
		h.Events = slices.Delete(h.Events, at, at+1)
	case 5:
		h.Events = slices.Insert(h.Events, at, h.Events[r.Intn(len(h.Events))])
	case 6:
		h.Orders = h.Orders[:r.Intn(len(h.Orders)+1)]
	case 7:
		e.Scan = append(slices.Clone(e.Scan), api.Seen{Object: r.Intn(3), Version: ver(r.Intn(3), 1)})
	}
	return h
}

// P16.1 to P16.5: histories that are drawn well-formed, and such as are bent, against the model.
func TestDrawn(t *testing.T) {
	met := map[api.Errno]int{}
	for seed := range int64(200) {
		r := rand.New(rand.NewSource(seed))
		h := drawn(r, 60, 1+int(seed)%6)
		if err := index.Check(h); err != api.OK {
			t.Errorf("Check of %v is %d", brief(h), err)
		}
		check(t, h)
		for range 4 {
			b := bent(r, h)
			if anew, err := history.Number(b); err == api.OK && r.Intn(2) == 0 {
				b = anew
			}
			check(t, b)
			met[modelError(b)]++
		}
	}
	if met[0] < 50 || met[210] < 100 || met[250] < 100 {
		t.Errorf("of what is bent there are, by errors, %v", met)
	}
}
