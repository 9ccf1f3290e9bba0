package history_test

import (
	"math/rand"
	"slices"
	"testing"

	"yardarm/api"
	"yardarm/history"
)

// loose tells histories that are loose.
func loose() []api.History {
	all := append(bases(), full())
	r := rand.New(rand.NewSource(4))
	for range 3000 {
		all = append(all, drawn(r))
	}
	return all
}

// P11.4: numbered anew it may be, and numbered once more it is the same; one that may be is so as it is.
func TestNumberAgain(t *testing.T) {
	for _, h := range loose() {
		once, err := history.Number(h)
		checkError(t, "Number", h, err, 0)
		checkError(t, "Check", once, history.Check(once), 0)
		twice, err := history.Number(once)
		checkError(t, "Number", once, err, 0)
		if !history.Same(once, twice) || !equal(once, twice) {
			t.Errorf("numbered it is %v, numbered again %v", brief(once), brief(twice))
		}
		if is := history.Check(h) == api.OK; is != history.Same(h, once) {
			t.Errorf("that %v may be is %v, and numbered it is %v", brief(h), is, brief(once))
		}
	}
}

// P11.4: what is completed may be, and completed once more it is the same.
func TestCompleteAgain(t *testing.T) {
	for _, h := range loose() {
		h, _ = history.Number(h)
		once, err := history.Complete(h)
		if err == api.ErrFull && len(h.Events) == 3000 {
			continue
		}
		checkError(t, "Complete", h, err, 0)
		checkError(t, "Check", once, history.Check(once), 0)
		twice, err := history.Complete(once)
		checkError(t, "Complete", once, err, 0)
		if !history.Same(once, twice) || !equal(once, twice) {
			t.Errorf("completed it is %v, completed again %v", brief(once), brief(twice))
		}
	}
}

// P11.4: the events of all transactions are the events.
func TestOfAll(t *testing.T) {
	for _, h := range loose() {
		h, _ = history.Number(h)
		var all []int
		for n := range h.Transactions {
			l, err := history.Of(h, n)
			checkError(t, "Of", h, err, 0)
			all = append(all, l...)
			for _, at := range l {
				if h.Events[at].T != n {
					t.Errorf("of %v the event %d is no one of %d", brief(h), at, n)
				}
			}
		}
		slices.Sort(all)
		if !slices.Equal(all, upTo(len(h.Events))) {
			t.Errorf("of %v the events of all are %v", brief(h), all)
		}
	}
}
