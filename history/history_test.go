package history_test

import (
	"math/rand"
	"slices"
	"strconv"
	"strings"
	"testing"

	"yardarm/api"
	"yardarm/history"
)

// checkAll checks what all calls that tell an error tell of h.
func checkAll(t *testing.T, h api.History) {
	t.Helper()
	no, noLoose := api.ErrHistory, api.ErrHistory
	if may(h) {
		no = api.OK
	}
	if isLoose(h) {
		noLoose = api.OK
	}
	checkError(t, "Check", h, history.Check(h), no)
	checkNumber(t, h, noLoose)
	checkComplete(t, h, no)
	for _, n := range []int{-1, 0, 1, 2, len(h.Transactions) - 1, len(h.Transactions)} {
		checkOf(t, h, n, no)
	}
}

// checkNumber checks what Number tells.
func checkNumber(t *testing.T, h api.History, no api.Errno) {
	t.Helper()
	var want api.History
	if no == api.OK {
		want = anew(h)
	}
	got, err := history.Number(h)
	checkError(t, "Number", h, err, no)
	if !equal(got, want) {
		t.Errorf("Number of %v is %v, not %v", brief(h), brief(got), brief(want))
	}
}

// checkComplete checks what Complete tells.
func checkComplete(t *testing.T, h api.History, no api.Errno) {
	t.Helper()
	var want api.History
	if no == api.OK {
		want = completed(h)
	}
	if len(want.Events) > 3000 {
		want, no = api.History{}, api.ErrFull
	}
	got, err := history.Complete(h)
	checkError(t, "Complete", h, err, no)
	if !equal(got, want) {
		t.Errorf("Complete of %v is %v, not %v", brief(h), brief(got), brief(want))
	}
}

// checkOf checks what Of tells of the transaction n.
func checkOf(t *testing.T, h api.History, n int, no api.Errno) {
	t.Helper()
	var want []int
	for at, e := range h.Events {
		if no == api.OK && e.T == n {
			want = append(want, at)
		}
	}
	got, err := history.Of(h, n)
	checkError(t, "Of "+strconv.Itoa(n), h, err, no)
	if !slices.Equal(got, want) {
		t.Errorf("Of %d of %v is %v, not %v", n, brief(h), got, want)
	}
}

// P11.1 to P11.3: the chapter's examples.
func TestExamples(t *testing.T) {
	h := plain()
	checkError(t, "Check", h, history.Check(h), 0)
	h.Events[1].Version.K = 0
	checkError(t, "Check", h, history.Check(h), 210)
	h = plain()
	h.Objects, h.Events[1].Object = []string{"y", "x"}, 1
	checkError(t, "Check", h, history.Check(h), 210)
	if n, err := history.Number(h); err != 0 || !slices.Equal(n.Objects, []string{"x"}) || n.Events[1].Object != 0 {
		t.Errorf("Number is %v, %d", n, err)
	}
	h = plain()
	h.Events = h.Events[:2]
	if c, err := history.Complete(h); err != 0 || len(c.Events) != 3 || !equal(c.Events[2], abort(0)) {
		t.Errorf("Complete is %v, %d", c, err)
	}
	if l, err := history.Of(plain(), 0); err != 0 || !slices.Equal(l, []int{0, 1, 2}) {
		t.Errorf("Of 0 is %v, %d", l, err)
	}
	if l, err := history.Of(plain(), 1); err != 0 || len(l) != 0 {
		t.Errorf("Of 1 is %v, %d", l, err)
	}
}

// The chapter's errors, kinds and limits.
func TestConstants(t *testing.T) {
	got := []int{
		int(api.ErrFull), int(api.ErrHistory), api.EvBegin, api.EvWrite, api.EvRead, api.EvScan, api.EvCommit, api.EvAbort,
		api.MaxTransactions, api.MaxSessions, api.MaxObjects, api.MaxPredicates, api.MaxEvents, api.MaxRows, api.MaxScan, api.MaxWrites,
	}
	if want := []int{6, 210, 1, 2, 3, 4, 5, 6, 300, 60, 300, 60, 3000, 3000, 40, 999}; !slices.Equal(got, want) {
		t.Errorf("the constants are %v, not %v", got, want)
	}
}

// P11.1: histories that may be, the empty one among them.
func TestMayBe(t *testing.T) {
	for _, h := range bases() {
		checkError(t, "Check", h, history.Check(h), 0)
		checkAll(t, h)
	}
}

// P11.1 to P11.3: each number of a history is changed, to all that may stand there and to what may not.
func TestNumberChanged(t *testing.T) {
	for _, h := range bases() {
		for _, number := range ints(&h) {
			is := *number
			for _, n := range values {
				*number = n
				checkAll(t, h)
			}
			*number = is
		}
	}
}

// P11.1: each event gets each field of each other kind.
func TestFieldsOfOthers(t *testing.T) {
	scans := [][]api.Seen{nil, {}, {seen(0, first)}, {seen(1, ver(1, 1)), seen(0, ver(0, 5))}}
	for kind := -1; kind < 9; kind++ {
		for fields := range 1 << 8 {
			bit := func(n int) int { return fields >> n & 1 }
			e := api.Event{
				Kind: kind, T: bit(0), Session: bit(1), Level: bit(2), Object: bit(3), Version: ver(bit(4), bit(5)), Predicate: bit(6), Scan: scans[bit(7)*2],
			}
			h := rich()
			for at := range h.Events {
				ahead := clone(h)
				ahead.Events = slices.Insert(ahead.Events, at, e)
				checkError(t, "Check", ahead, history.Check(ahead), check(ahead))
			}
			for _, s := range scans {
				e.Scan = s
				h.Events = append(rich().Events, e)
				checkAll(t, h)
			}
		}
	}
}

// check tells what Check should.
func check(h api.History) api.Errno {
	if may(h) {
		return api.OK
	}
	return api.ErrHistory
}

// P11.1 to P11.3: histories as they are drawn, some with a wrong number.
func TestDrawn(t *testing.T) {
	r := rand.New(rand.NewSource(11))
	for range 20000 {
		h := drawn(r)
		checkAll(t, h)
		all := ints(&h)
		if len(all) > 0 {
			*all[r.Intn(len(all))] = values[r.Intn(len(values))]
			checkAll(t, h)
		}
		if n, err := history.Number(h); err == api.OK {
			checkAll(t, n)
		}
	}
}

// P11.1, P11.2: names are words, of one sort no two alike; of two sorts they may be.
func TestNames(t *testing.T) {
	no := []string{"", "1", "1a", "a b", "a.b", "-", " a", "a\n", "a#", "\xff", strings.Repeat("a", 25), strings.Repeat("a", 1<<16)}
	fine := []string{"é", "_", "a1", strings.Repeat("a", 24), "\uFFFD"}
	for sort := range 4 {
		for _, s := range slices.Concat(no, fine, rich().Transactions, rich().Sessions, rich().Objects, rich().Predicates) {
			h := rich()
			l := []*[]string{&h.Transactions, &h.Sessions, &h.Objects, &h.Predicates}[sort]
			for at := range *l {
				was := (*l)[at]
				(*l)[at] = s
				checkAll(t, h)
				(*l)[at] = was
			}
			// Even a name that nobody speaks of is one.
			*l = append(*l, s)
			checkAll(t, h)
		}
	}
}

// P11.1, P11.2: names are put the other way round, or one is left out.
func TestNamesMoved(t *testing.T) {
	for _, base := range bases() {
		for sort := range 4 {
			h := clone(base)
			l := []*[]string{&h.Transactions, &h.Sessions, &h.Objects, &h.Predicates}[sort]
			for a := range *l {
				for b := range a {
					(*l)[a], (*l)[b] = (*l)[b], (*l)[a]
					checkAll(t, h)
				}
				less := clone(h)
				left := []*[]string{&less.Transactions, &less.Sessions, &less.Objects, &less.Predicates}[sort]
				*left = slices.Delete(*left, a, a+1)
				checkAll(t, less)
			}
		}
	}
}

// P11.1, P11.2: events and rows are left out, told twice, and put in another order.
func TestRowsMoved(t *testing.T) {
	for _, base := range bases() {
		for at := range base.Events {
			h := clone(base)
			h.Events = slices.Delete(h.Events, at, at+1)
			checkAll(t, h)
			h.Events = slices.Insert(clone(base).Events, at, base.Events[at])
			checkAll(t, h)
			h.Events = append(slices.Delete(clone(base).Events, at, at+1), base.Events[at])
			checkAll(t, h)
		}
		h := clone(base)
		slices.Reverse(h.Orders)
		checkAll(t, h)
		slices.Reverse(h.Matches)
		checkAll(t, h)
		slices.Reverse(h.Wants)
		checkAll(t, h)
		slices.Reverse(h.Events)
		checkAll(t, h)
	}
}

// P11.2: by what names are spoken of first: of each place of them one history in which the other places come behind.
func TestWhatSpeaksFirst(t *testing.T) {
	l := []api.History{
		{Events: []api.Event{read(1, 0, ver(0, 1))}},
		{Events: []api.Event{read(1, 0, first), abort(0)}},
		{Events: []api.Event{scan(2, 0, seen(2, ver(1, 1)), seen(1, first), seen(0, ver(0, 1)))}},
		{Events: []api.Event{scan(1, 1, seen(0, first)), scan(0, 0)}},
		{Events: []api.Event{begin(0, 1, 1), begin(0, 0, 1)}, Wants: []api.Want{{Session: 2}, {Session: 0}}},
		{Events: []api.Event{write(2, 2, 1)}, Orders: []api.Order{{Object: 1, Ts: []int{1, 0}}}, Matches: []api.Match{{Object: 0, Ts: []int{0}}}},
		{Orders: []api.Order{{Object: 2, Ts: []int{2}}, {Object: 1, Ts: []int{1}}}, Matches: []api.Match{{Object: 0, Predicate: 1, Ts: []int{0}}, {}}},
		{Matches: []api.Match{{Object: 1, Predicate: 2, Ts: []int{2, 0, 1}}, {Predicate: 0}}, Wants: []api.Want{{Session: 1}}},
	}
	for _, h := range l {
		h.Transactions, h.Sessions, h.Objects, h.Predicates = names("t", 3), names("s", 3), names("x", 3), names("p", 3)
		checkError(t, "Check", h, history.Check(h), 210)
		checkAll(t, h)
	}
}

// P11.1: two histories are the same, part by part; nil and empty lists are one.
func TestSame(t *testing.T) {
	for _, base := range append(bases(), api.History{Events: []api.Event{{Kind: 99, T: -1}}}) {
		h, other := clone(base), clone(base)
		if !history.Same(h, other) {
			t.Errorf("%v is not the same as itself", h)
		}
		for _, number := range ints(&other) {
			for _, more := range []int{1, -1, 1 << 32} {
				*number += more
				if history.Same(h, other) || history.Same(other, h) {
					t.Errorf("%v, %v are the same", h, other)
				}
				*number -= more
			}
		}
		for _, change := range changes() {
			other = clone(base)
			change(&other)
			if is := equal(h, other); history.Same(h, other) != is || history.Same(other, h) != is {
				t.Errorf("%v, %v: it should be %v that they are the same", h, other, is)
			}
		}
	}
	empty := api.History{Transactions: []string{}, Events: []api.Event{}, Orders: []api.Order{}, Matches: []api.Match{}, Wants: []api.Want{}}
	if !history.Same(empty, api.History{}) {
		t.Errorf("nil and empty lists are not one")
	}
}

// changes tells how histories are made other ones, but for their numbers.
func changes() []func(h *api.History) {
	return []func(h *api.History){
		func(h *api.History) { h.Transactions = append(h.Transactions, "new") },
		func(h *api.History) { h.Sessions = append(h.Sessions, "new") },
		func(h *api.History) { h.Objects = append(h.Objects, "new") },
		func(h *api.History) { h.Predicates = append(h.Predicates, "new") },
		func(h *api.History) {
			h.Transactions = append([]string{"x"}, h.Transactions[min(1, len(h.Transactions)):]...)
		},
		func(h *api.History) { h.Predicates = h.Predicates[:0] },
		func(h *api.History) { h.Transactions, h.Objects = h.Objects, h.Transactions },
		func(h *api.History) { h.Sessions, h.Predicates = h.Predicates, h.Sessions },
		func(h *api.History) { h.Events = append(h.Events, abort(0)) },
		func(h *api.History) { h.Events = h.Events[:len(h.Events)/2] },
		func(h *api.History) { slices.Reverse(h.Events) },
		func(h *api.History) { h.Orders = append(h.Orders, api.Order{}) },
		func(h *api.History) { h.Matches = append(h.Matches, api.Match{}) },
		func(h *api.History) { h.Wants = append(h.Wants, api.Want{}) },
		func(h *api.History) { h.Orders, h.Matches, h.Wants = nil, nil, nil },
		func(h *api.History) {
			for at := range h.Events {
				h.Events[at].Scan = append([]api.Seen{}, h.Events[at].Scan...)
			}
		},
		func(h *api.History) {
			for at := range h.Orders {
				h.Orders[at].Ts = append(h.Orders[at].Ts, 0)
			}
		},
		func(h *api.History) {
			for at := range h.Matches {
				h.Matches[at].Ts = append(h.Matches[at].Ts, 0)
			}
		},
		func(h *api.History) {
			for at := range h.Matches {
				h.Matches[at].First = !h.Matches[at].First
			}
		},
	}
}

// P11.1: two events are the same, part by part.
func TestSameEvent(t *testing.T) {
	l := []api.Event{
		{}, {Kind: 1}, {T: 1}, {Session: 1}, {Level: 1}, {Object: 1}, {Version: ver(1, 0)}, {Version: ver(0, 1)}, {Predicate: 1}, {Scan: []api.Seen{}},
		{Scan: []api.Seen{{}}}, {Scan: []api.Seen{{}, {}}}, {Scan: []api.Seen{seen(1, first)}}, {Scan: []api.Seen{seen(0, ver(1, 0))}}, {Scan: []api.Seen{seen(0, ver(0, 1))}},
		{Scan: []api.Seen{seen(1, first), {}}}, {Scan: []api.Seen{{}, seen(1, first)}}, {Kind: -1}, {Kind: 1 << 32},
	}
	for _, a := range append(l, rich().Events...) {
		for _, b := range append(l, rich().Events...) {
			if is := history.SameEvent(a, b); is != equal(a, b) {
				t.Errorf("SameEvent of %v, %v is %v", a, b, is)
			}
		}
	}
}
