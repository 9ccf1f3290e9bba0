package print_test

import (
	"slices"
	"strings"
	"testing"

	"yardarm/api"
	"yardarm/format"
	"yardarm/history"
	"yardarm/print"
)

// sized tells a history whose text has so many bytes, which are at least 25.
func sized(bytes int) api.History {
	h := api.History{Transactions: []string{"t"}, Objects: []string{"x"}}
	h.Events = []api.Event{write(0, 0, 1)}
	bytes -= len("write t x\n")
	if bytes%2 == 1 {
		h.Sessions, h.Wants = []string{"s"}, []api.Want{{}}
		bytes -= len("want s\n")
	}
	for bytes > 0 {
		// What is left has to be enough for one more row, or for none.
		ts := min(300, (bytes-len("order x\n"))/2)
		if left := bytes - len("order x\n") - 2*ts; left > 0 && left < len("order x\n") {
			ts -= 4
		}
		h.Orders = append(h.Orders, api.Order{Ts: make([]int, ts)})
		bytes -= len("order x\n") + 2*ts
	}
	return h
}

// P14.2, R6: texts of as many bytes as may be, and of one more.
func TestMaxText(t *testing.T) {
	for bytes := 25; bytes < 1300; bytes++ {
		if s, err := print.Text(sized(bytes)); len(s) != bytes || err != api.OK {
			t.Fatalf("of %d bytes Text has %d, %d", bytes, len(s), err)
		}
	}
	for more := -10; more <= 10; more++ {
		h := sized(131072 + more)
		s, err := print.Text(h)
		if more <= 0 && (len(s) != 131072+more || err != api.OK) || more > 0 && (s != "" || err != api.ErrLong) {
			t.Errorf("with %d bytes more than may be Text has %d bytes, %d", more, len(s), err)
		}
		check(t, h)
	}
}

// P14.2: it is too long whatever stands in it, and wherever.
func TestLong(t *testing.T) {
	long := strings.Repeat("é", 12)
	row := func(n int) []int { return make([]int, n) }
	h := api.History{Transactions: []string{long}, Objects: []string{"x"}, Orders: []api.Order{{Ts: row(300)}}}
	for n := 1; n <= 20; n++ {
		h.Orders = slices.Repeat(h.Orders[:1], n)
		check(t, h)
	}
	seen := slices.Repeat([]api.Seen{seen(0, ver(0, 999))}, 40)
	h.Orders = nil
	h.Predicates = []string{"p"}
	for _, n := range []int{1, 100, 108, 109, 110, 111, 500, 3000} {
		h.Events = slices.Repeat([]api.Event{scan(0, 0, seen...)}, n)
		check(t, h)
	}
	h.Events, h.Matches = nil, slices.Repeat([]api.Match{{First: true, Ts: row(300)}}, 3000)
	if s, err := print.Text(h); s != "" || err != api.ErrLong {
		t.Errorf("Text has %d bytes, %d", len(s), err)
	}
	if l, err := print.Lines(h); len(l) != 3000 || err != api.OK {
		t.Errorf("Lines has %d, %d", len(l), err)
	}
}

// P14.2, P14.3, R2: what may not be is that first, be it too long, or its writes too many.
func TestWrongAndLong(t *testing.T) {
	h := sized(131073)
	h.Wants = append(h.Wants, api.Want{Bits: 16})
	checkWrong(t, h)
	h = writes(1000)
	h.Objects = append(h.Objects, "y")
	checkWrong(t, h)
}

// P14.2: without its last line feed a text may be as long as may be, and what is read of it is too long to be told.
func TestNoEnd(t *testing.T) {
	s := modelText(sized(131073))
	h, size, err := format.Read(s[:131072])
	if size != 131072 || err != api.OK || !history.Same(h, sized(131073)) {
		t.Errorf("Read is %v, %d, %d", brief(h), size, err)
	}
	if s, err := print.Text(h); s != "" || err != api.ErrLong {
		t.Errorf("Text has %d bytes, %d", len(s), err)
	}
}

// writes tells a history of so many writes of one object by one transaction.
func writes(n int) api.History {
	return api.History{Transactions: []string{"t"}, Objects: []string{"x"}, Events: slices.Repeat([]api.Event{write(0, 0, 1)}, n)}
}

// P14.3: 999 writes of a transaction and an object, and one more.
func TestMaxWrites(t *testing.T) {
	for _, n := range []int{998, 999, 1000, 1001, 3000} {
		h := writes(n)
		if counted, err := print.Count(h); n < 1000 && (err != api.OK || counted.Events[n-1].Version.K != n) || n >= 1000 && (err != api.ErrFull || !equal(counted, api.History{})) {
			t.Errorf("of %d writes Count is %v, %d", n, brief(counted), err)
		}
		check(t, h)
		// The text has no K, but is read as so many writes.
		s, err := print.Text(h)
		if err != api.OK || s != strings.Repeat("write t x\n", n) {
			t.Errorf("of %d writes Text is %s, %d", n, short(s), err)
		}
		_, at, err := format.Read(s)
		if n < 1000 && err != api.OK || n >= 1000 && (err != api.ErrFull || at != 9990) {
			t.Errorf("of %d writes the text is read till %d, %d", n, at, err)
		}
	}
}

// P14.3: others' writes, and other objects', do not count.
func TestOtherWrites(t *testing.T) {
	h := api.History{Transactions: []string{"t", "u"}, Objects: []string{"x", "y"}}
	for n := range 2800 {
		h.Events = append(h.Events, write(n%2, n/2%2, 1+n%999))
	}
	check(t, h)
	if counted, err := print.Count(h); err != api.OK || counted.Events[2799].Version.K != 700 {
		t.Errorf("Count is %v, %d", brief(counted), err)
	}
	h.Events = append(writes(999).Events, write(1, 0, 1), write(0, 1, 1), read(0, 0, ver(0, 999)))
	check(t, h)
	if !equal(h.Events[:999], writes(999).Events) {
		t.Error("what was handed in has changed")
	}
	counted, err := print.Count(h)
	if err != api.OK || !print.Counted(counted) {
		t.Errorf("Count is %v, %d", brief(counted), err)
	}
	h.Events = append(h.Events, write(0, 0, 1))
	check(t, h)
	if _, err := print.Count(h); err != api.ErrFull {
		t.Errorf("Count of one write too many is %d", err)
	}
}

// P14.1, P14.3: as many of all as may be.
func TestFull(t *testing.T) {
	h := api.History{Transactions: many("t", 300), Sessions: many("s", 60), Objects: many("x", 300), Predicates: many("p", 60)}
	for n := range 3000 {
		h.Events = append(h.Events, begin(n%300, n%60, n%4+1))
		h.Orders = append(h.Orders, api.Order{Object: n % 300, Ts: []int{299}})
		h.Matches = append(h.Matches, api.Match{Predicate: n % 60, First: n%2 == 0})
		h.Wants = append(h.Wants, api.Want{Session: n % 60, Bits: n % 16})
	}
	h.Orders[2999].Ts = slices.Repeat([]int{4}, 300)
	h.Events[2999] = scan(4, 0, slices.Repeat([]api.Seen{seen(0, ver(0, 999))}, 40)...)
	h, err := history.Number(h)
	if err != api.OK {
		t.Errorf("Number is %d", err)
	}
	check(t, h)
	h.Events = append(h.Events, commit(0))
	checkWrong(t, h)
}
