package rules_test

import (
	"slices"
	"testing"

	"yardarm/api"
	"yardarm/history"
	"yardarm/rules"
)

// all tells the numbers from 0 on.
func all(n int) []int {
	var l []int
	for t := range n {
		l = append(l, t)
	}
	return l
}

// full tells a well-formed history with as many writers, objects and events as may be: each transaction begins, writes 8 objects, commits.
func full() api.History {
	h := api.History{Transactions: many("t", 300), Sessions: many("s", 60), Objects: many("x", 8), Predicates: many("p", 60)}
	for t := range h.Transactions {
		h.Events = append(h.Events, begin(t, t%60, 1+t%4))
		for x := range h.Objects {
			h.Events = append(h.Events, write(t, x, 1))
		}
		h.Events = append(h.Events, commit(t))
	}
	for x := range h.Objects {
		h.Orders = append(h.Orders, api.Order{Object: x, Ts: all(300)})
		for p := range h.Predicates {
			h.Matches = append(h.Matches, api.Match{Predicate: p, Object: x, Ts: all(300)})
		}
	}
	for s := range h.Sessions {
		h.Wants = append(h.Wants, api.Want{Session: s, Bits: 15})
	}
	return h
}

// expect checks what First and Place tell of a history too great for the model.
func expect(t *testing.T, h api.History, want api.Broken) {
	t.Helper()
	if b, is, err := rules.First(h); b != want || is != (want.Rule > 0) || err != api.OK {
		t.Errorf("First is %v, %v, %d; not %v", b, is, err, want)
	}
	if want.Rule == 0 {
		return
	}
	if at, is, err := rules.Place(h, want.Rule); at != want.Place || !is || err != api.OK {
		t.Errorf("Place of %d is %d, %v, %d; not %d", want.Rule, at, is, err, want.Place)
	}
}

// P15.1, P15.2: as many writers as may be, and one that is wrong.
func TestFull(t *testing.T) {
	expect(t, full(), api.Broken{})
	if !rules.Sound(full()) {
		t.Error("Sound is false")
	}
	for x := range 8 {
		checkWriters(t, full(), x, all(300))
	}
	for rule, bad := range map[api.Broken]func(h *api.History){
		{Rule: api.RuEnd, Place: 2999}:    func(h *api.History) { h.Events[2998] = commit(299) },
		{Rule: api.RuCount, Place: 2998}:  func(h *api.History) { h.Events[2998] = write(299, 0, 1) },
		{Rule: api.RuOwn, Place: 2998}:    func(h *api.History) { h.Events[2998] = read(299, 0, first) },
		{Rule: api.RuOrder, Place: 7}:     func(h *api.History) { h.Orders[7].Ts[299] = 0 },
		{Rule: api.RuOrder, Place: 6}:     func(h *api.History) { h.Orders[6].Ts = h.Orders[6].Ts[:299] },
		{Rule: api.RuMissing, Place: 7}:   func(h *api.History) { h.Orders = h.Orders[:7] },
		{Rule: api.RuMatch, Place: 479}:   func(h *api.History) { h.Matches[479].Ts[299] = 298 },
		{Rule: api.RuMatch, Place: 478}:   func(h *api.History) { h.Matches[478] = h.Matches[0] },
		{Rule: api.RuWant, Place: 60}:     func(h *api.History) { h.Wants = append(h.Wants, h.Wants[59]) },
		{Rule: api.RuWritten, Place: 598}: func(h *api.History) { h.Events[598] = read(59, 0, ver(60, 1)) },
	} {
		h := full()
		bad(&h)
		expect(t, h, rule)
	}
}

// P15.1: all rows that may be, the last one alone wrong.
func TestManyRows(t *testing.T) {
	h := api.History{Objects: many("x", 300), Predicates: many("p", 60)}
	for n := range 3000 {
		h.Matches = append(h.Matches, api.Match{Predicate: n / 50, Object: n % 300, First: n%2 == 0})
		h.Orders = append(h.Orders, api.Order{Object: n % 300})
	}
	h.Orders = h.Orders[:300]
	h, err := history.Number(h)
	if err != api.OK {
		t.Errorf("Number is %d", err)
	}
	expect(t, h, api.Broken{})
	h.Matches[2999].Object = h.Matches[2998].Object
	expect(t, h, api.Broken{Rule: api.RuMatch, Place: 2999})
	h.Orders = slices.Repeat(h.Orders, 10)
	expect(t, h, api.Broken{Rule: api.RuOrder, Place: 300})
	h.Orders = append(h.Orders, api.Order{})
	checkWrong(t, h)
}

// P15.1: 999 writes of a transaction and an object; one more can't be counted.
func TestMaxWrites(t *testing.T) {
	h := api.History{Transactions: []string{"t"}, Sessions: []string{"s"}, Objects: []string{"x"}, Events: []api.Event{begin(0, 0, 1)}}
	for k := range 999 {
		h.Events = append(h.Events, write(0, 0, 1+k))
	}
	expect(t, h, api.Broken{})
	for _, k := range []int{1, 998, 999} {
		more := clone(h)
		more.Events = append(more.Events, write(0, 0, k))
		expect(t, more, api.Broken{Rule: api.RuCount, Place: 1000})
	}
	h.Events = append(h.Events, write(0, 0, 1000))
	checkWrong(t, h)
}

// P15.1: scans of as many objects as may be, and one of them twice.
func TestMaxScan(t *testing.T) {
	var l []api.Seen
	for x := range 40 {
		l = append(l, seen(x, first))
	}
	h := api.History{Transactions: []string{"t"}, Sessions: []string{"s"}, Objects: many("x", 40), Predicates: []string{"p"}}
	h.Events = append([]api.Event{begin(0, 0, 1)}, slices.Repeat([]api.Event{scan(0, 0, l...)}, 2999)...)
	expect(t, h, api.Broken{})
	twice := slices.Clone(l)
	twice[39].Object = 0
	h.Events[2999].Scan = twice
	expect(t, h, api.Broken{Rule: api.RuScan, Place: 2999})
	h.Events[2999].Scan = append(slices.Clone(l), l[0])
	checkWrong(t, h)
}

// P15.3: a well-formed history that is too long to be completed is well-formed as it is.
func TestTooLongToComplete(t *testing.T) {
	h := api.History{Transactions: []string{"t"}, Sessions: []string{"s"}, Objects: []string{"x"}}
	h.Events = append([]api.Event{begin(0, 0, 1)}, slices.Repeat([]api.Event{read(0, 0, first)}, 2999)...)
	expect(t, h, api.Broken{})
	if _, err := history.Complete(h); err != api.ErrFull {
		t.Errorf("Complete is %d", err)
	}
}
