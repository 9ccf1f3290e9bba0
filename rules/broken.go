package rules

import (
	"iter"
	"slices"

	"yardarm/api"
)

func (l *look) begun() iter.Seq[int] {
	begun := make([]bool, len(l.Transactions))
	return places(l.Events, func(e api.Event) bool {
		begins, ahead := e.Kind == api.EvBegin, begun[e.T]
		begun[e.T] = ahead || begins
		return begins == ahead
	})
}

func (l *look) ended() iter.Seq[int] {
	ended := make([]bool, len(l.Transactions))
	return places(l.Events, func(e api.Event) bool {
		ahead := ended[e.T]
		ended[e.T] = ahead || e.Kind == api.EvCommit || e.Kind == api.EvAbort
		return ahead
	})
}

func (l *look) counted() iter.Seq[int] {
	writes := map[writing]int{}
	return places(l.Events, func(e api.Event) bool {
		if e.Kind != api.EvWrite {
			return false
		}
		of := writing{e.T, e.Object}
		writes[of]++
		return e.Version.K != writes[of]
	})
}

func (l *look) written() iter.Seq[int] {
	ahead := map[api.Seen]int{}
	return places(l.Events, func(e api.Event) bool {
		if e.Kind == api.EvWrite {
			ahead[api.Seen{Object: e.Object, Version: e.Version}]++
		}
		return slices.ContainsFunc(seen(e), func(s api.Seen) bool {
			return s.Version.K > 0 && ahead[s] == 0
		})
	})
}

func (l *look) own() iter.Seq[int] {
	last := map[writing]api.Version{}
	return places(l.Events, func(e api.Event) bool {
		if e.Kind == api.EvWrite {
			last[writing{e.T, e.Object}] = e.Version
		}
		return slices.ContainsFunc(seen(e), func(s api.Seen) bool {
			v, wrote := last[writing{e.T, s.Object}]
			return wrote && s.Version != v
		})
	})
}

func (l *look) scanned() iter.Seq[int] {
	return places(l.Events, func(e api.Event) bool {
		var named [api.MaxObjects]bool
		return slices.ContainsFunc(e.Scan, func(s api.Seen) bool {
			ahead := named[s.Object]
			named[s.Object] = true
			return ahead
		})
	})
}

func (l *look) ordered() iter.Seq[int] {
	told := again[int]()
	return places(l.Orders, func(o api.Order) bool {
		return told(o.Object) || len(o.Ts) != len(l.writers[o.Object]) || !l.once(o.Object, o.Ts)
	})
}

func (l *look) missing() iter.Seq[int] {
	left := slices.Clone(l.writers)
	for _, o := range l.Orders {
		left[o.Object] = nil
	}
	return places(left, func(ts []int) bool { return len(ts) > 1 })
}

func (l *look) matched() iter.Seq[int] {
	told := again[pair]()
	return places(l.Matches, func(m api.Match) bool {
		return told(pair{m.Predicate, m.Object}) || !l.once(m.Object, m.Ts)
	})
}

func (l *look) wanted() iter.Seq[int] {
	begins := make([]bool, len(l.Sessions))
	for _, e := range l.Events {
		if e.Kind == api.EvBegin {
			begins[e.Session] = true
		}
	}
	told := again[int]()
	return places(l.Wants, func(w api.Want) bool {
		return told(w.Session) || !begins[w.Session]
	})
}
