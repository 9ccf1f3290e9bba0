package print

import (
	"iter"
	"strings"

	"yardarm/api"
)

// telling is a history that may be, and is told as lines.
type telling struct {
	api.History
	kinds map[int]func(e api.Event) api.Line // what events say, by their kinds
}

// lines tells the lines of the history, event by event, and row by row.
func lines(h api.History) iter.Seq[api.Line] {
	t := &telling{History: h}
	t.kinds = map[int]func(e api.Event) api.Line{
		api.EvBegin:  t.begin,
		api.EvWrite:  t.write,
		api.EvRead:   t.read,
		api.EvScan:   t.scan,
		api.EvCommit: t.end,
		api.EvAbort:  t.end,
	}
	return func(yield func(l api.Line) bool) {
		_ = each(h.Events, t.event, yield) && each(h.Orders, t.order, yield) &&
			each(h.Matches, t.match, yield) && each(h.Wants, t.want, yield)
	}
}

// each hands over what the rows say, row by row, as long as yield goes on; it tells whether it still does.
func each[Row any](rows []Row, says func(row Row) api.Line, yield func(l api.Line) bool) bool {
	for _, row := range rows {
		if !yield(says(row)) {
			return false
		}
	}
	return true
}

func (t *telling) event(e api.Event) api.Line {
	return t.kinds[e.Kind](e)
}

func (t *telling) begin(e api.Event) api.Line {
	l := of(e.Kind, t.Transactions[e.T], t.Sessions[e.Session])
	l.Level = e.Level
	return l
}

func (t *telling) write(e api.Event) api.Line {
	return of(e.Kind, t.Transactions[e.T], t.Objects[e.Object])
}

func (t *telling) read(e api.Event) api.Line {
	l := of(e.Kind, t.Transactions[e.T], t.Objects[e.Object])
	l.Versions = []api.Told{t.version(e.Version)}
	return l
}

func (t *telling) scan(e api.Event) api.Line {
	l := of(e.Kind, t.Transactions[e.T], t.Predicates[e.Predicate])
	for _, s := range e.Scan {
		put(&l, t.Objects[s.Object])
		l.Versions = append(l.Versions, t.version(s.Version))
	}
	return l
}

func (t *telling) end(e api.Event) api.Line {
	return of(e.Kind, t.Transactions[e.T])
}

func (t *telling) order(o api.Order) api.Line {
	l := of(api.LnOrder, t.Objects[o.Object])
	put(&l, t.named(o.Ts)...)
	return l
}

func (t *telling) match(m api.Match) api.Line {
	l := of(api.LnMatch, t.Predicates[m.Predicate], t.Objects[m.Object])
	l.First = m.First
	put(&l, t.named(m.Ts)...)
	return l
}

func (t *telling) want(w api.Want) api.Line {
	l := of(api.LnWant, t.Sessions[w.Session])
	l.Bits = w.Bits
	return l
}

// version tells v by its transaction's name; the first version is nobody's.
func (t *telling) version(v api.Version) api.Told {
	if v.K == 0 {
		return api.Told{}
	}
	return api.Told{Name: strings.Clone(t.Transactions[v.T]), K: v.K}
}

// named tells the names of the transactions.
func (t *telling) named(ts []int) []string {
	var l []string
	for _, n := range ts {
		l = append(l, t.Transactions[n])
	}
	return l
}

// of tells a line of the kind that has names alone.
func of(kind int, names ...string) api.Line {
	l := api.Line{Kind: kind}
	put(&l, names...)
	return l
}

// put puts the names behind those of l, in memory of their own.
func put(l *api.Line, names ...string) {
	for _, s := range names {
		l.Names = append(l.Names, strings.Clone(s))
	}
}
