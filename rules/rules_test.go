package rules_test

import (
	"math/rand"
	"slices"
	"testing"

	"yardarm/api"
	"yardarm/format"
	"yardarm/history"
	"yardarm/rules"
)

// chapter is the chapter's own history.
func chapter() api.History {
	return api.History{
		Transactions: []string{"t"}, Sessions: []string{"s"}, Objects: []string{"x"},
		Events: []api.Event{begin(0, 0, 1), write(0, 0, 1), commit(0)},
	}
}

// P15.1, P15.2: the chapter's examples.
func TestExamples(t *testing.T) {
	ordered, wanted := chapter(), chapter()
	ordered.Orders = []api.Order{{Ts: []int{0}}}
	wanted.Wants = []api.Want{{}}
	behind, bare, second, none, twice := chapter(), chapter(), chapter(), chapter(), chapter()
	behind.Events = append(behind.Events, read(0, 0, ver(0, 1)))
	bare.Events, bare.Sessions = bare.Events[1:], nil
	second.Events[1].Version.K = 2
	none.Orders = []api.Order{{}}
	twice.Wants = []api.Want{{}, {Bits: 1}}
	for _, c := range []struct {
		h    api.History
		want api.Broken
	}{
		{chapter(), api.Broken{}},
		{ordered, api.Broken{}},
		{wanted, api.Broken{}},
		{behind, api.Broken{Rule: api.RuEnd, Place: 3}},
		{bare, api.Broken{Rule: api.RuBegin}},
		{second, api.Broken{Rule: api.RuCount, Place: 1}},
		{none, api.Broken{Rule: api.RuOrder}},
		{twice, api.Broken{Rule: api.RuWant, Place: 1}},
	} {
		checkFirst(t, c.h, c.want)
		checkWriters(t, c.h, 0, []int{0})
		checkWriters(t, c.h, 1, nil)
	}
}

// checkFirst checks what is wrong with h, of rule 0 nothing; and all calls against the model.
func checkFirst(t *testing.T, h api.History, want api.Broken) {
	t.Helper()
	if b, is, err := rules.First(h); b != want || is != (want.Rule != 0) || err != api.OK {
		t.Errorf("First of %v is %v, %v, %d; not %v", brief(h), b, is, err, want)
	}
	if is := rules.Sound(h); is != (want.Rule == 0) {
		t.Errorf("Sound of %v is %v", brief(h), is)
	}
	check(t, h)
}

// The chapter's error and rules.
func TestConstants(t *testing.T) {
	got := []int{
		int(api.ErrHistory), int(api.ErrRule), api.RuBegin, api.RuEnd, api.RuCount, api.RuWritten,
		api.RuOwn, api.RuScan, api.RuOrder, api.RuMissing, api.RuMatch, api.RuWant,
	}
	if want := []int{210, 250, 1, 2, 3, 4, 5, 6, 7, 8, 9, 10}; !slices.Equal(got, want) {
		t.Errorf("the constants are %v, not %v", got, want)
	}
}

// told is what is wrong with the history of a text.
type told struct {
	text        string
	rule, place int
}

// checkTold checks what is wrong with the histories of texts.
func checkTold(t *testing.T, l []told) {
	t.Helper()
	for _, c := range l {
		h, _, err := format.Read(c.text)
		if err != api.OK {
			t.Errorf("Read of %q is %d", c.text, err)
		}
		checkFirst(t, h, api.Broken{Rule: c.rule, Place: c.place})
	}
}

// P15.1: a transaction begins once, ahead of all else, and does nothing behind its end.
func TestBeginAndEnd(t *testing.T) {
	checkTold(t, []told{
		{"", 0, 0},
		{"begin t s 1\n", 0, 0},
		{"begin t s 1\nbegin u s 1\n", 0, 0},
		{"begin t s 1\nbegin t s 1\n", 1, 1},
		{"begin t s 1\nbegin u s 1\nbegin t r 3\n", 1, 2},
		{"write t x\n", 1, 0},
		{"read t x -\n", 1, 0},
		{"scan t p\n", 1, 0},
		{"commit t\n", 1, 0},
		{"abort t\n", 1, 0},
		{"begin t s 1\ncommit u\n", 1, 1},
		{"begin t s 1\nwrite u x\nbegin u s 1\n", 1, 1},
		{"begin t s 1\ncommit t\nbegin t s 1\n", 1, 2},
		{"begin t s 1\ncommit t\ncommit t\ncommit u\n", 1, 3},
		{"begin t s 1\ncommit t\n", 0, 0},
		{"begin t s 1\nabort t\n", 0, 0},
		{"begin t s 1\ncommit t\ncommit t\n", 2, 2},
		{"begin t s 1\ncommit t\nabort t\n", 2, 2},
		{"begin t s 1\nabort t\ncommit t\n", 2, 2},
		{"begin t s 1\nabort t\nabort t\n", 2, 2},
		{"begin t s 1\nabort t\nwrite t x\n", 2, 2},
		{"begin t s 1\nabort t\nread t x -\n", 2, 2},
		{"begin t s 1\ncommit t\nscan t p\nread t x -\n", 2, 2},
		{"begin t s 1\nbegin u s 1\ncommit t\nwrite u x\nabort u\nread t x -\n", 2, 5},
	})
}

// P15.1: writes are counted, those of each transaction, and each object, alone.
func TestCount(t *testing.T) {
	counts := func(rule, place int, l ...api.Event) {
		t.Helper()
		h := api.History{Transactions: []string{"t", "u"}, Sessions: []string{"s"}, Objects: []string{"x", "y"}}
		h.Events = append([]api.Event{begin(0, 0, 1), begin(1, 0, 1), read(0, 0, first), read(1, 1, first)}, l...)
		checkFirst(t, h, api.Broken{Rule: rule, Place: place})
	}
	counts(0, 0)
	counts(0, 0, write(0, 0, 1))
	counts(3, 4, write(0, 0, 2))
	counts(3, 4, write(0, 0, 999))
	counts(0, 0, write(0, 0, 1), write(0, 0, 2), write(0, 0, 3))
	counts(3, 5, write(0, 0, 1), write(0, 0, 1))
	counts(3, 5, write(0, 0, 1), write(0, 0, 3))
	counts(3, 4, write(0, 0, 2), write(0, 0, 2))
	counts(3, 6, write(0, 0, 1), write(0, 0, 2), write(0, 0, 2))
	counts(0, 0, write(0, 0, 1), write(1, 0, 1), write(0, 1, 1), write(1, 1, 1), write(0, 0, 2), write(1, 1, 2))
	counts(3, 5, write(0, 0, 1), write(1, 0, 2))
	counts(3, 5, write(0, 0, 1), write(0, 1, 2))
	// What is read counts nothing.
	counts(0, 0, write(0, 0, 1), read(0, 0, ver(0, 1)), read(1, 0, ver(0, 1)), write(0, 0, 2))
}

// P15.1: what is seen was written ahead, but the first version; who has written sees its own last one; a scan names each object once.
func TestSeen(t *testing.T) {
	checkTold(t, []told{
		{"begin t s 1\nread t x -\nscan t p x - y -\n", 0, 0},
		{"begin t s 1\nbegin u s 1\nwrite u x\nread t x u.1\nscan t p x u.1\n", 0, 0},
		{"begin t s 1\nbegin u s 1\nwrite u x\nabort u\nread t x u.1\nread t x -\n", 0, 0},
		{"begin t s 1\nbegin u s 1\nwrite u x\nwrite u x\nread t x u.1\nread t x u.2\nread t x u.1\nread t x -\n", 0, 0},
		{"begin t s 1\nbegin u s 1\nread t x u.1\nwrite u x\n", 4, 2},
		{"begin t s 1\nbegin u s 1\nscan t p x u.1\nwrite u x\n", 4, 2},
		{"begin t s 1\nread t x u.1\n", 4, 1},
		{"begin t s 1\nread t x t.1\nwrite t x\n", 4, 1},
		{"begin t s 1\nbegin u s 1\nwrite u x\nread t y u.1\n", 4, 3},
		{"begin t s 1\nbegin u s 1\nwrite u x\nread t x u.2\nwrite u x\n", 4, 3},
		{"begin t s 1\nbegin u s 1\nwrite u x\nread t x u.1\nscan t p x u.1 y u.1\n", 4, 4},
		{"begin t s 1\nbegin u s 1\nwrite u x\nscan t p y u.1 x u.1\n", 4, 3},
		{"begin t s 1\nbegin u s 1\nwrite u x\nread t x t.1\n", 4, 3},
		{"begin t s 1\nread t x t.1\ncommit t\nread t x -\n", 2, 3},
		{"begin t s 1\nwrite t x\nread t x t.1\nscan t p x t.1\n", 0, 0},
		{"begin t s 1\nread t x -\nscan t p x -\nwrite t x\n", 0, 0},
		{"begin t s 1\nwrite t x\nread t y -\nscan t p y - x t.1\n", 0, 0},
		{"begin t s 1\nwrite t x\nread t x -\n", 5, 2},
		{"begin t s 1\nwrite t x\nscan t p x -\n", 5, 2},
		{"begin t s 1\nwrite t x\nscan t p y - x -\n", 5, 2},
		{"begin t s 1\nwrite t x\nwrite t x\nread t x t.2\nread t x t.1\n", 5, 4},
		{"begin t s 1\nwrite t x\nread t x t.1\nwrite t x\nscan t p x t.1\n", 5, 4},
		{"begin t s 1\nbegin u s 1\nwrite t x\nwrite u x\nread t x u.1\n", 5, 4},
		{"begin t s 1\nbegin u s 1\nwrite t x\nread u x -\nread u x t.1\n", 0, 0},
		{"begin t s 1\nwrite t x\nread t x -\nread t x t.2\n", 4, 3},
		{"begin t s 1\nscan t p x - y - x -\n", 6, 1},
		{"begin t s 1\nscan t p x - x -\n", 6, 1},
		{"begin t s 1\nscan t p x -\nscan t p x -\nscan t q x -\n", 0, 0},
		{"begin t s 1\nscan t p\nscan t p x - y - z -\nscan t p x - y - z - y -\n", 6, 3},
		{"begin t s 1\nbegin u s 1\nwrite u x\nscan t p x u.1 x -\n", 6, 3},
		{"begin t s 1\nwrite t x\nscan t p x t.1 x t.1\nread t x -\n", 5, 3},
	})
}

// P15.1: an order has the writers, each once; of several writers there is one.
func TestOrders(t *testing.T) {
	two := "begin t s 1\nbegin u s 1\nbegin v s 1\nwrite t x\nwrite u x\nwrite v x\nwrite t x\ncommit t\ncommit u\nabort v\n"
	checkTold(t, []told{
		{two + "order x t u\n", 0, 0},
		{two + "order x u t\n", 0, 0},
		{two, 8, 0},
		{two + "order x\n", 7, 0},
		{two + "order x t\n", 7, 0},
		{two + "order x t t\n", 7, 0},
		{two + "order x t u u\n", 7, 0},
		{two + "order x t u v\n", 7, 0},
		{two + "order x t v\n", 7, 0},
		{two + "order x v\n", 7, 0},
		{two + "order x t w\n", 7, 0},
		{two + "order x t u\norder x t u\n", 7, 1},
		{two + "order x t\norder x t u\n", 7, 0},
		{two + "order y\norder x u t\norder z\norder y\n", 7, 3},
		{two + "order y\norder z\n", 8, 0},
		{two + "order y t\norder x t u\n", 7, 0},
		{"order x\n", 0, 0},
		{"order x t\n", 7, 0},
		{"order x\norder y\norder x\n", 7, 2},
		{"begin t s 1\nwrite t x\ncommit t\n", 0, 0},
		{"begin t s 1\nwrite t x\ncommit t\norder x t\n", 0, 0},
		{"begin t s 1\nwrite t x\norder x t\n", 7, 0},
		{"begin t s 1\nwrite t x\norder x\n", 0, 0},
		{"begin t s 1\nread t x -\ncommit t\norder x t\n", 7, 0},
		// It is at an object, by its number.
		{"begin t s 1\nbegin u s 1\nwrite t y\nwrite t x\nwrite t z\nwrite u z\nwrite u x\ncommit t\ncommit u\n", 8, 1},
		{"begin t s 1\nbegin u s 1\nwrite t y\nwrite t x\nwrite t z\nwrite u z\nwrite u x\ncommit t\ncommit u\norder x t u\n", 8, 2},
		{"begin t s 1\nbegin u s 1\nwrite t y\nwrite t x\nwrite t z\nwrite u z\nwrite u x\ncommit t\ncommit u\norder z u t\n", 8, 1},
	})
}

// P15.1: what matches was installed; who wants something is there.
func TestMatchesAndWants(t *testing.T) {
	two := "begin t s 1\nbegin u r 1\nbegin v s 1\nwrite t x\nwrite u x\nwrite v x\nwrite v y\ncommit t\ncommit u\nabort v\norder x t u\n"
	checkTold(t, []told{
		{two, 0, 0},
		{two + "match p x\n", 0, 0},
		{two + "match p x -\n", 0, 0},
		{two + "match p x u\n", 0, 0},
		{two + "match p x - u t\nmatch q x\nmatch p y -\n", 0, 0},
		{two + "match p x v\n", 9, 0},
		{two + "match p x t v\n", 9, 0},
		{two + "match p x t t\n", 9, 0},
		{two + "match p x t u t\n", 9, 0},
		{two + "match p x w\n", 9, 0},
		{two + "match p y t\n", 9, 0},
		{two + "match p y v\n", 9, 0},
		{two + "match p x\nmatch p x -\n", 9, 1},
		{two + "match p x t\nmatch q x t\nmatch p y\nmatch q y t\nmatch p x t\n", 9, 3},
		{two + "match p x t\nmatch q x t\nmatch p y\nmatch q y\nmatch q x u\n", 9, 4},
		{"match p x\nmatch q x -\n", 0, 0},
		{"match p x -\nmatch p x -\n", 9, 1},
		{two + "want s ryw\nwant r\n", 0, 0},
		{two + "want s\n", 0, 0},
		{two + "want q\n", 10, 0},
		{two + "want r\nwant s\nwant r mr\n", 10, 2},
		{two + "want r\nwant q\nwant r\n", 10, 1},
		{two + "match p x v\nwant q\n", 9, 0},
		{"want s\n", 10, 0},
		{"read t x -\nwant s\n", 1, 0},
	})
}

// P15.1: the first rule goes ahead of the least place.
func TestFirstRule(t *testing.T) {
	checkTold(t, []told{
		{"begin t s 1\nscan t p x - x -\nread t x u.1\n", 4, 2},
		{"begin t s 1\nread t x u.1\ncommit t\ncommit t\n", 2, 3},
		{"begin t s 1\ncommit t\ncommit t\ncommit u\n", 1, 3},
		{"begin t s 1\nwrite t x\nread t x -\nread t x u.1\norder x t\nwant r\n", 4, 3},
		{"begin t s 1\nwrite t x\nread t x -\norder x t\nwant r\n", 5, 2},
		{"begin t s 1\nwrite t x\norder x t\nwant r\n", 7, 0},
		{"begin t s 1\nbegin u s 1\nwrite t x\nwrite u x\ncommit t\ncommit u\nmatch p x w\norder y w\n", 7, 0},
		{"begin t s 1\nbegin u s 1\nwrite t x\nwrite u x\ncommit t\ncommit u\nmatch p x w\nwant r\n", 8, 0},
		{"match p x w\nwant r\n", 9, 0},
	})
	// Counting stands between 2 and 4.
	h := chapter()
	h.Events[1].Version.K = 2
	h.Events = []api.Event{h.Events[0], read(0, 0, ver(0, 1)), h.Events[1], h.Events[2]}
	checkFirst(t, h, api.Broken{Rule: 3, Place: 2})
	h.Events = append(h.Events, commit(0))
	checkFirst(t, h, api.Broken{Rule: 2, Place: 4})
}

// P15.2: the writers of objects, whatever rules are broken.
func TestWriters(t *testing.T) {
	for _, c := range []struct {
		text string
		want [][]int
	}{
		{"", [][]int{nil}},
		{"begin t s 1\nwrite t x\nwrite t x\nread t y -\ncommit t\n", [][]int{{0}, nil, nil}},
		{"begin t s 1\nwrite t x\nabort t\n", [][]int{nil}},
		{"begin t s 1\nwrite t x\n", [][]int{nil}},
		{"begin t s 1\nbegin u s 1\nbegin v s 1\nwrite v x\nwrite t x\nwrite u y\nwrite t y\ncommit v\ncommit u\ncommit t\n", [][]int{{0, 2}, {0, 1}, nil}},
		// A commit, and a write, are so wherever they stand.
		{"commit t\nwrite t x\n", [][]int{{0}}},
		{"write t x\nabort t\ncommit t\n", [][]int{{0}}},
		{"commit t\ncommit t\nwrite t x\nabort t\nwrite t x\n", [][]int{{0}}},
		{"commit t\nread u x t.1\nwrite u x\norder x t u\nmatch p y t\n", [][]int{nil, nil}},
	} {
		h, _, err := format.Read(c.text)
		if err != api.OK {
			t.Errorf("Read of %q is %d", c.text, err)
		}
		for x, want := range c.want {
			checkWriters(t, h, x, want)
		}
		for _, x := range []int{-1 << 63, -1, len(h.Objects), 300, 1<<63 - 1} {
			checkWriters(t, h, x, nil)
		}
		check(t, h)
	}
}

// P15.1, P15.2: all short rows of few events, with rows, or without.
func TestShort(t *testing.T) {
	kinds := []api.Event{
		begin(0, 0, 1), begin(1, 1, 4), write(0, 0, 1), write(0, 0, 2), write(1, 0, 1), write(1, 1, 1), read(0, 0, first), read(1, 0, ver(0, 1)),
		scan(0, 0, seen(1, first), seen(0, ver(1, 1))), scan(1, 0, seen(0, first), seen(0, ver(0, 1))), commit(0), commit(1), abort(0),
	}
	checkRows := func(l ...api.Event) {
		h := api.History{Transactions: []string{"t", "u"}, Sessions: []string{"s", "r"}, Objects: []string{"x", "y"}, Predicates: []string{"p"}, Events: l}
		anew, _ := history.Number(h)
		check(t, anew)
		h.Orders = []api.Order{{Object: 1}, {Object: 0, Ts: []int{1, 0}}}
		h.Matches = []api.Match{{Ts: []int{0}}}
		h.Wants = []api.Want{{}, {Session: 1}}
		anew, _ = history.Number(h)
		check(t, anew)
	}
	for _, a := range kinds {
		checkRows(a)
		for _, b := range kinds {
			checkRows(a, b)
			for _, c := range kinds {
				checkRows(a, b, c)
				checkRows(begin(0, 0, 1), begin(1, 1, 1), write(0, 0, 1), a, b, c)
			}
		}
	}
}

// bent tells h with something changed that can break a rule.
func bent(r *rand.Rand, h api.History) api.History {
	h = clone(h)
	all := ints(&h)
	switch n := r.Intn(8); {
	case n < 3 && len(all) > 0:
		*all[r.Intn(len(all))] = r.Intn(5)
	case n == 3 && len(h.Events) > 0:
		at := r.Intn(len(h.Events))
		h.Events = slices.Delete(h.Events, at, at+1)
	case n == 4 && len(h.Events) > 0:
		h.Events = slices.Insert(h.Events, r.Intn(len(h.Events)+1), clone(h).Events[r.Intn(len(h.Events))])
	case n == 5:
		h.Orders = append(h.Orders, clone(h).Orders[:r.Intn(len(h.Orders)+1)]...)
		h.Matches = append(h.Matches, clone(h).Matches[:r.Intn(len(h.Matches)+1)]...)
		h.Wants = append(h.Wants, h.Wants[:r.Intn(len(h.Wants)+1)]...)
	case n == 6:
		h.Orders = h.Orders[:r.Intn(len(h.Orders)+1)]
		h.Wants = append(h.Wants, api.Want{Session: r.Intn(len(h.Sessions) + 1)})
	case n == 7:
		for at, e := range h.Events {
			if len(e.Scan) > 0 {
				h.Events[at].Scan = append(e.Scan, e.Scan[r.Intn(len(e.Scan))])
			}
		}
	}
	return h
}

// P15.1, P15.2: histories that are drawn well-formed, and such as are bent, some into what may not be.
func TestDrawn(t *testing.T) {
	var met [11]int
	for seed := range int64(2500) {
		r := rand.New(rand.NewSource(seed))
		h := sound(r, 40, 1+int(seed)%6)
		if !rules.Sound(h) {
			t.Errorf("Sound of %v is false", brief(h))
		}
		check(t, h)
		for range 8 {
			b := bent(r, h)
			check(t, b)
			anew, err := history.Number(b)
			if err == api.OK {
				check(t, anew)
				met[modelFirst(anew).Rule]++
			}
		}
	}
	for rule, n := range met {
		if n < 20 {
			t.Errorf("rule %d is broken %d times alone", rule, n)
		}
	}
}

// P15.1, P15.2, R2: histories that may not be, well-formed or not.
func TestWrong(t *testing.T) {
	for n, bad := range []func(h *api.History){
		func(h *api.History) { h.Objects = append(h.Objects, "new") },
		func(h *api.History) { h.Objects[0] = "1" },
		func(h *api.History) { h.Transactions = append(h.Transactions, "t") },
		func(h *api.History) { h.Sessions[0] = "" },
		func(h *api.History) { h.Transactions = nil },
		func(h *api.History) { h.Objects = nil },
		func(h *api.History) { h.Sessions = nil },
		func(h *api.History) { h.Events[0].Kind = 0 },
		func(h *api.History) { h.Events[0].Kind = 7 },
		func(h *api.History) { h.Events[0].T = -1 },
		func(h *api.History) { h.Events[0].T = 1 },
		func(h *api.History) { h.Events[0].Level = 5 },
		func(h *api.History) { h.Events[1].Version = first },
		func(h *api.History) { h.Events[1].Version.K = 1000 },
		func(h *api.History) { h.Events[2].Session = -1 },
		func(h *api.History) { h.Events = append(h.Events, read(0, 1, first)) },
		func(h *api.History) { h.Events = append(h.Events, read(0, 0, ver(1, 1))) },
		func(h *api.History) { h.Events = append(h.Events, scan(0, 0)) },
		func(h *api.History) { h.Events = slices.Repeat(h.Events, 1001) },
		func(h *api.History) { h.Orders = []api.Order{{Ts: []int{1}}} },
		func(h *api.History) { h.Orders = []api.Order{{Object: -1}} },
		func(h *api.History) { h.Orders = []api.Order{{Ts: make([]int, 301)}} },
		func(h *api.History) { h.Matches = []api.Match{{}} },
		func(h *api.History) { h.Wants = []api.Want{{Bits: 16}} },
		func(h *api.History) { h.Wants = []api.Want{{Session: 1}} },
		func(h *api.History) { h.Wants = make([]api.Want, 3001) },
	} {
		h := chapter()
		bad(&h)
		if history.Check(h) == api.OK {
			t.Errorf("the history %d may be", n)
		}
		checkWrong(t, h)
	}
	checkWrong(t, api.History{Objects: []string{"x"}})
	checkWrong(t, api.History{Events: []api.Event{{}}})
}
