package history

import (
	"iter"

	"yardarm/api"
	"yardarm/lex"
)

// The sorts of names.
const (
	transactions = iota
	sessions
	objects
	predicates
	sorts
)

// most is how many names of each sort there are at most.
var most = [sorts]int{api.MaxTransactions, api.MaxSessions, api.MaxObjects, api.MaxPredicates}

// name is a name of a sort, by its number.
type name struct {
	sort, number int
}

// names tells of each sort where its names stand in h.
func names(h *api.History) [sorts]*[]string {
	return [sorts]*[]string{&h.Transactions, &h.Sessions, &h.Objects, &h.Predicates}
}

// apart tells whether all of l are words, and no two of them the same.
func apart(l []string) bool {
	met := map[string]int{}
	for n, s := range l {
		if !lex.Word(s) {
			return false
		}
		met[s] = n
	}
	return len(met) == len(l)
}

// spoken tells by what names are spoken of in h, in order: of each the sort, and where its number stands.
func spoken(h *api.History) iter.Seq2[int, *int] {
	return func(yield func(sort int, number *int) bool) {
		ts := func(l []int) bool {
			return each(l, func(t *int) bool { return yield(transactions, t) })
		}
		_ = each(h.Events, func(e *api.Event) bool {
			return byEvent(e, yield)
		}) && each(h.Orders, func(o *api.Order) bool {
			return yield(objects, &o.Object) && ts(o.Ts)
		}) && each(h.Matches, func(m *api.Match) bool {
			return yield(predicates, &m.Predicate) && yield(objects, &m.Object) && ts(m.Ts)
		}) && each(h.Wants, func(w *api.Want) bool {
			return yield(sessions, &w.Session)
		})
	}
}

// byEvent hands over by what e speaks of names, as long as yield goes on; it tells whether it still does.
func byEvent(e *api.Event, yield func(sort int, number *int) bool) bool {
	version := func(v *api.Version) bool {
		// The first version is nobody's.
		return v.K == 0 || yield(transactions, &v.T)
	}
	if !yield(transactions, &e.T) {
		return false
	}
	switch e.Kind {
	case api.EvBegin:
		return yield(sessions, &e.Session)
	case api.EvWrite, api.EvRead:
		return yield(objects, &e.Object) && version(&e.Version)
	case api.EvScan:
		return yield(predicates, &e.Predicate) && each(e.Scan, func(s *api.Seen) bool {
			return yield(objects, &s.Object) && version(&s.Version)
		})
	}
	return true
}
