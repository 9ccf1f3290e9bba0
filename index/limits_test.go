package index_test

import (
	"slices"
	"strconv"
	"testing"

	"yardarm/api"
	"yardarm/index"
)

// many tells n names that begin so, no two the same.
func many(ahead string, n int) []string {
	var l []string
	for i := range n {
		l = append(l, ahead+strconv.Itoa(i))
	}
	return l
}

// upTo tells the numbers from 0 on.
func upTo(n int) []int {
	var l []int
	for i := range n {
		l = append(l, i)
	}
	return l
}

// falling tells the numbers below n, the greatest one first.
func falling(n int) []int {
	l := upTo(n)
	slices.Reverse(l)
	return l
}

// full tells a well-formed history of 300 transactions that each begin, write 4 objects twice, and commit, later ones ahead of earlier ones, which have installed them the other way round.
func full() api.History {
	h := api.History{Transactions: many("t", 300), Sessions: many("s", 60), Objects: many("x", 4)}
	for t := range 300 {
		h.Events = append(h.Events, api.Event{Kind: api.EvBegin, T: t, Session: t % 60, Level: 1 + t%4})
		for n := range 8 {
			h.Events = append(h.Events, api.Event{Kind: api.EvWrite, T: t, Object: n % 4, Version: ver(t, 1+n/4)})
		}
	}
	for _, t := range falling(300) {
		h.Events = append(h.Events, api.Event{Kind: api.EvCommit, T: t})
	}
	for x := range 4 {
		h.Orders = append(h.Orders, api.Order{Object: x, Ts: falling(300)})
	}
	return h
}

// P16.1 to P16.4: as many transactions, sessions, installers and events as may be.
func TestFull(t *testing.T) {
	h := full()
	if l, err := index.Committed(h); !slices.Equal(l, upTo(300)) || err != api.OK {
		t.Errorf("Committed is %v, %d", l, err)
	}
	if l, err := index.Line(h, 59); !slices.Equal(l, []int{59, 119, 179, 239, 299}) || err != api.OK {
		t.Errorf("Line is %v, %d", l, err)
	}
	if s, l, err := index.Begun(h, 299); s != 59 || l != 4 || err != api.OK {
		t.Errorf("Begun is %d, %d, %d", s, l, err)
	}
	if l, err := index.Installed(h, 3); !slices.Equal(l, falling(300)) || err != api.OK {
		t.Errorf("Installed is %v, %d", l, err)
	}
	if v, at, is := index.Final(h, 299, 3); v != ver(299, 2) || at != 2699 || !is {
		t.Errorf("Final is %v, %d, %v", v, at, is)
	}
	for rank := range 300 {
		if n, is := index.Next(h, 3, rank); n != 299-rank || !is {
			t.Errorf("Next of %d is %d, %v", rank, n, is)
		}
		if got, is := index.Rank(h, 3, ver(299-rank, 2)); got != rank+1 || !is {
			t.Errorf("Rank of %d is %d, %v", 299-rank, got, is)
		}
		if got, is := index.Rank(h, 3, ver(299-rank, 1)); got != 0 || is {
			t.Errorf("Rank of what %d has written over is %d, %v", 299-rank, got, is)
		}
	}
	if n, is := index.Next(h, 3, 300); n != 0 || is {
		t.Errorf("Next of the last rank is %d, %v", n, is)
	}
	h.Events = append(h.Events, h.Events[2999])
	checkWrong(t, h, 210)
}

// P16.3 to P16.5: as many writes of a transaction and an object as may be, and as many objects.
func TestMany(t *testing.T) {
	h := api.History{Transactions: []string{"t"}, Sessions: []string{"s"}, Objects: many("x", 300), Predicates: []string{"p"}}
	h.Events = []api.Event{{Kind: api.EvBegin, Level: 1}}
	for k := range 999 {
		h.Events = append(h.Events, api.Event{Kind: api.EvWrite, Version: ver(0, k+1)})
	}
	scan := api.Event{Kind: api.EvScan, Scan: []api.Seen{{Version: ver(0, 999)}}}
	for x := 1; x < 40; x++ {
		scan.Scan = append(scan.Scan, api.Seen{Object: x})
	}
	h.Events = append(h.Events, scan)
	for x := 40; x < 300; x++ {
		h.Events = append(h.Events, api.Event{Kind: api.EvWrite, Object: x, Version: ver(0, 1)})
	}
	h.Events = append(h.Events, api.Event{Kind: api.EvScan}, api.Event{Kind: api.EvCommit})
	if v, at, is := index.Final(h, 0, 0); v != ver(0, 999) || at != 999 || !is {
		t.Errorf("Final is %v, %d, %v", v, at, is)
	}
	for k, want := range map[int]int{0: 0, 998: -1, 999: 1, 1000: -1} {
		if rank, is := index.Rank(h, 0, ver(0, k)); rank != max(want, 0) || is != (want >= 0) {
			t.Errorf("Rank of %d is %d, %v; not %d", k, rank, is, want)
		}
	}
	for _, at := range []int{1000, 1261} {
		if l, err := index.Sights(h, at); len(l) != 300 || l[0].Version != ver(0, 999) || l[39].Version != first || err != api.OK {
			t.Errorf("Sights at %d is %v, %d", at, l, err)
		}
		checkSights(t, h, at)
	}
	checkFinal(t, h, 0, 299)
	checkFinal(t, h, 0, 39)
}
