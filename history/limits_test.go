package history_test

import (
	"slices"
	"testing"

	"yardarm/api"
	"yardarm/history"
)

// upTo tells the numbers below n.
func upTo(n int) []int {
	var l []int
	for i := range n {
		l = append(l, i)
	}
	return l
}

// full tells a history that has as many of all as may be.
func full() api.History {
	h := api.History{Transactions: names("t", 300), Sessions: names("s", 60), Objects: names("x", 300), Predicates: names("p", 60)}
	for n := range 3000 {
		e := begin(n%300, n%60, n%4+1)
		if n == 1500 {
			e = scan(1, 0, slices.Repeat([]api.Seen{seen(0, ver(0, 999))}, 40)...)
		}
		h.Events = append(h.Events, e)
		h.Orders = append(h.Orders, api.Order{Object: n % 300})
		h.Matches = append(h.Matches, api.Match{Predicate: n % 60})
		h.Wants = append(h.Wants, api.Want{Bits: n % 16})
	}
	h.Orders[7].Ts, h.Matches[8].Ts = upTo(300), upTo(300)
	h.Orders[2999].Ts, h.Matches[2999].Ts = slices.Repeat([]int{4}, 300), slices.Repeat([]int{299}, 300)
	return h
}

// P11.1 to P11.3: as many of each as the limits say, and one more.
func TestLimits(t *testing.T) {
	h := full()
	checkError(t, "Check", h, history.Check(h), 0)
	checkAll(t, h)
	for _, more := range []func(h *api.History){
		func(h *api.History) { h.Transactions = append(h.Transactions, "new") },
		func(h *api.History) { h.Sessions = append(h.Sessions, "new") },
		func(h *api.History) { h.Objects = append(h.Objects, "new") },
		func(h *api.History) { h.Predicates = append(h.Predicates, "new") },
		func(h *api.History) { h.Events = append(h.Events, abort(0)) },
		func(h *api.History) { h.Orders = append(h.Orders, api.Order{}) },
		func(h *api.History) { h.Matches = append(h.Matches, api.Match{}) },
		func(h *api.History) { h.Wants = append(h.Wants, api.Want{}) },
		func(h *api.History) { h.Events[1500].Scan = append(h.Events[1500].Scan, seen(0, first)) },
		func(h *api.History) { h.Orders[7].Ts = append(h.Orders[7].Ts, 0) },
		func(h *api.History) { h.Orders[2999].Ts = append(h.Orders[2999].Ts, 0) },
		func(h *api.History) { h.Matches[8].Ts = append(h.Matches[8].Ts, 0) },
		func(h *api.History) { h.Matches[2999].Ts = append(h.Matches[2999].Ts, 0) },
		func(h *api.History) { h.Events[1500].Scan[39].Version.K = 1000 },
	} {
		h := clone(full())
		more(&h)
		checkError(t, "Check", h, history.Check(h), 210)
		checkAll(t, h)
	}
}

// P11.1: a name too many is one even if it is spoken of.
func TestNamesTooMany(t *testing.T) {
	for _, n := range []int{59, 60, 61, 299, 300, 301} {
		var a, b, c, d api.History
		a.Transactions, b.Sessions, c.Objects, d.Predicates = names("t", n), names("s", n), names("x", n), names("p", n)
		d.Objects = []string{"x"}
		for at := range n {
			a.Events = append(a.Events, commit(at))
			b.Wants = append(b.Wants, api.Want{Session: at})
			c.Orders = append(c.Orders, api.Order{Object: at})
			d.Matches = append(d.Matches, api.Match{Predicate: at})
		}
		for _, h := range []api.History{a, b, c, d} {
			checkAll(t, h)
		}
	}
}

// P11.3: what is completed has 3000 events at most.
func TestCompleteFull(t *testing.T) {
	for _, open := range []int{0, 1, 2, 300} {
		h := api.History{Transactions: names("t", max(open, 1)), Sessions: []string{"s"}}
		for n := range open {
			h.Events = append(h.Events, begin(n, 0, 1))
		}
		for len(h.Events) < 3000 {
			h.Events = append(h.Events, read(0, 0, first))
		}
		h.Objects = []string{"x"}
		if open == 0 {
			h.Sessions = nil
		}
		for _, n := range []int{3000, 2999, 2998, 2997, 2701, 2700, 2699} {
			h.Events = h.Events[:n]
			checkAll(t, h)
			full, err := history.Complete(h)
			if fits := n+open <= 3000; fits != (err == api.OK) || fits != (len(full.Events) == n+open) {
				t.Errorf("of %d events, %d to complete, Complete tells %d, %d", n, open, len(full.Events), err)
			}
		}
	}
}

// P11.3: who is completed, and in which order, whatever stands ahead.
func TestCompleteWho(t *testing.T) {
	l := []api.Event{begin(0, 0, 1), begin(1, 0, 2), commit(0), abort(0), commit(1), abort(1), write(1, 0, 1), begin(2, 0, 1), begin(3, 0, 1)}
	for _, a := range l {
		for _, b := range l {
			for _, c := range l {
				for _, d := range l {
					h := api.History{
						Transactions: names("t", 4), Sessions: []string{"s"}, Objects: []string{"x"}, Events: []api.Event{a, b, c, d},
					}
					n, err := history.Number(h)
					checkError(t, "Number", h, err, 0)
					checkComplete(t, n, api.OK)
					for who := range n.Transactions {
						checkOf(t, n, who, api.OK)
					}
				}
			}
		}
	}
}
