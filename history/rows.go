package history

import (
	"slices"
	"strings"

	"yardarm/api"
	"yardarm/level"
)

// each hands over the rows, one by one, as long as do tells true; it tells whether that was so of all.
func each[Row any](rows []Row, do func(row *Row) bool) bool {
	for at := range rows {
		if !do(&rows[at]) {
			return false
		}
	}
	return true
}

// loose tells whether h may be, however its names are numbered.
func loose(h api.History) api.Errno {
	all := names(&h)
	for sort, l := range all {
		if len(*l) > most[sort] || !apart(*l) {
			return api.ErrHistory
		}
	}
	if !fine(&h) {
		return api.ErrHistory
	}
	for sort, number := range spoken(&h) {
		if *number < 0 || *number >= len(*all[sort]) {
			return api.ErrHistory
		}
	}
	return api.OK
}

// fine tells whether the events and rows of h are so many, and such, as may be, whatever names they speak of.
func fine(h *api.History) bool {
	if len(h.Events) > api.MaxEvents || max(len(h.Orders), len(h.Matches), len(h.Wants)) > api.MaxRows {
		return false
	}
	own := kinds()
	return each(h.Events, func(e *api.Event) bool {
		if e.Kind < api.EvBegin || e.Kind > api.EvAbort {
			return false
		}
		bare, may := own[e.Kind](*e)
		return may && SameEvent(*e, bare)
	}) && each(h.Orders, func(o *api.Order) bool {
		return len(o.Ts) <= api.MaxTransactions
	}) && each(h.Matches, func(m *api.Match) bool {
		return len(m.Ts) <= api.MaxTransactions
	}) && each(h.Wants, func(w *api.Want) bool {
		_, err := level.Words(w.Bits)
		return err == api.OK
	})
}

// kinds tells of each kind what it leaves of an event, all other fields being zero, and whether that may be, whatever names it speaks of.
func kinds() [api.EvAbort + 1]func(e api.Event) (api.Event, bool) {
	end := func(e api.Event) (api.Event, bool) {
		return api.Event{Kind: e.Kind, T: e.T}, true
	}
	return [...]func(e api.Event) (api.Event, bool){
		api.EvBegin: func(e api.Event) (api.Event, bool) {
			return api.Event{Kind: e.Kind, T: e.T, Session: e.Session, Level: e.Level}, level.Check(e.Level) == api.OK
		},
		api.EvWrite: func(e api.Event) (api.Event, bool) {
			own := e.Version.T == e.T && e.Version.K > 0
			return api.Event{Kind: e.Kind, T: e.T, Object: e.Object, Version: e.Version}, own && told(e.Version)
		},
		api.EvRead: func(e api.Event) (api.Event, bool) {
			return api.Event{Kind: e.Kind, T: e.T, Object: e.Object, Version: e.Version}, told(e.Version)
		},
		api.EvScan: func(e api.Event) (api.Event, bool) {
			may := len(e.Scan) <= api.MaxScan && each(e.Scan, func(s *api.Seen) bool { return told(s.Version) })
			return api.Event{Kind: e.Kind, T: e.T, Predicate: e.Predicate, Scan: e.Scan}, may
		},
		api.EvCommit: end,
		api.EvAbort:  end,
	}
}

// told tells whether v may be told, if its T is a transaction's number.
func told(v api.Version) bool {
	if v.K == 0 {
		return v.T == 0
	}
	return v.K > 0 && v.K <= api.MaxWrites
}

// open tells the transactions that have begun, and not ended, rising.
func open(h api.History) []int {
	begun, ended := make([]bool, len(h.Transactions)), make([]bool, len(h.Transactions))
	for _, e := range h.Events {
		switch e.Kind {
		case api.EvBegin:
			begun[e.T] = true
		case api.EvCommit, api.EvAbort:
			ended[e.T] = true
		}
	}
	var left []int
	for t := range h.Transactions {
		if begun[t] && !ended[t] {
			left = append(left, t)
		}
	}
	return left
}

func sameOrder(a, b api.Order) bool {
	return a.Object == b.Object && slices.Equal(a.Ts, b.Ts)
}

func sameMatch(a, b api.Match) bool {
	return a.Predicate == b.Predicate && a.Object == b.Object && a.First == b.First && slices.Equal(a.Ts, b.Ts)
}

// copied tells h in memory of its own.
func copied(h api.History) api.History {
	anew := api.History{
		Events:  slices.Clone(h.Events),
		Orders:  slices.Clone(h.Orders),
		Matches: slices.Clone(h.Matches),
		Wants:   slices.Clone(h.Wants),
	}
	now := names(&anew)
	for sort, l := range names(&h) {
		for _, s := range *l {
			*now[sort] = append(*now[sort], strings.Clone(s))
		}
	}
	for at := range anew.Events {
		anew.Events[at].Scan = slices.Clone(h.Events[at].Scan)
	}
	for at := range anew.Orders {
		anew.Orders[at].Ts = slices.Clone(h.Orders[at].Ts)
	}
	for at := range anew.Matches {
		anew.Matches[at].Ts = slices.Clone(h.Matches[at].Ts)
	}
	return anew
}
