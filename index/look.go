package index

import (
	"iter"

	"yardarm/api"
)

// asked asks, if h is well-formed, and what it is asked of is there.
func asked(h api.History, there bool, ask func()) api.Errno {
	if err := Check(h); err != api.OK {
		return err
	}
	if !there {
		return api.ErrArg
	}
	ask()
	return api.OK
}

// gathered tells all that is told when h is so asked, one behind the other.
func gathered[Item any](h api.History, there bool, ask func(tell func(x Item))) ([]Item, api.Errno) {
	var l []Item
	err := asked(h, there, func() {
		ask(func(x Item) { l = append(l, x) })
	})
	return l[:len(l):len(l)], err
}

// among tells whether the rows have one of that number.
func among[Row any](rows []Row, n int) bool {
	return n >= 0 && n < len(rows)
}

// events tells the events that are such, and their places.
func events(h api.History, such func(e api.Event) bool) iter.Seq2[int, api.Event] {
	return func(yield func(at int, e api.Event) bool) {
		for at, e := range h.Events {
			if such(e) && !yield(at, e) {
				return
			}
		}
	}
}

// committed tells of each transaction whether it has committed.
func committed(h api.History) []bool {
	has := make([]bool, len(h.Transactions))
	for _, e := range events(h, func(e api.Event) bool { return e.Kind == api.EvCommit }) {
		has[e.T] = true
	}
	return has
}

// installers tells who installs the object, by the ranks of what they install.
func installers(h api.History, object int) map[int]int {
	by := map[int]int{}
	for _, o := range h.Orders {
		if o.Object != object {
			continue
		}
		for before, t := range o.Ts {
			by[before+1] = t
		}
		return by
	}
	has := committed(h)
	writes := func(e api.Event) bool { return e.Kind == api.EvWrite && e.Object == object && has[e.T] }
	for _, e := range events(h, writes) {
		// Without an order all of them are of one transaction.
		by[1] = e.T
	}
	return by
}

// last tells the last version that t has written of the object, and the place of its event, if there is one.
func last(h api.History, t, object int) (v api.Version, at int, is bool) {
	writes := func(e api.Event) bool { return e.Kind == api.EvWrite && e.T == t && e.Object == object }
	for place, e := range events(h, writes) {
		v, at, is = e.Version, place, true
	}
	return v, at, is
}

// ranked tells the rank of the version v of the object, if it has one.
func ranked(h api.History, object int, v api.Version) (int, bool) {
	if v == (api.Version{}) {
		return 0, true
	}
	if final, _, is := last(h, v.T, object); !is || v != final {
		return 0, false
	}
	by := installers(h, object)
	for before := range len(by) {
		if by[before+1] == v.T {
			return before + 1, true
		}
	}
	return 0, false
}

// sights tells which version of each object the scan at that place sees.
func sights(h api.History, at int) []api.Version {
	sees := make([]api.Version, len(h.Objects))
	t := h.Events[at].T
walk:
	for place, e := range events(h, func(e api.Event) bool { return e.T == t }) {
		switch {
		case e.Kind == api.EvWrite:
			sees[e.Object] = e.Version
		case place == at:
			for _, s := range e.Scan {
				sees[s.Object] = s.Version
			}
			break walk
		}
	}
	return sees
}
