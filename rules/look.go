package rules

import (
	"iter"
	"slices"

	"yardarm/api"
)

// look goes through a history that may be.
type look struct {
	api.History
	writers [][]int // of each object, rising
}

// writing is who writes, and what.
type writing struct {
	t, object int
}

// pair is what a match is of.
type pair struct {
	predicate, object int
}

// lookAt tells h, with its writers.
func lookAt(h api.History) *look {
	l := &look{History: h, writers: make([][]int, len(h.Objects))}
	// A commit makes writers of all writes, those behind it, too.
	committed := make([]bool, len(h.Transactions))
	for _, e := range h.Events {
		committed[e.T] = committed[e.T] || e.Kind == api.EvCommit
	}
	told := again[writing]()
	for _, e := range h.Events {
		if e.Kind == api.EvWrite && committed[e.T] && !told(writing{e.T, e.Object}) {
			l.writers[e.Object] = append(l.writers[e.Object], e.T)
		}
	}
	for _, ts := range l.writers {
		slices.Sort(ts)
	}
	return l
}

// asks tells what each rule asks: at which places it is broken, rising. What is told of a look is ranged over once.
func asks() [api.RuWant + 1]func(l *look) iter.Seq[int] {
	return [...]func(l *look) iter.Seq[int]{
		api.RuBegin:   (*look).begun,
		api.RuEnd:     (*look).ended,
		api.RuCount:   (*look).counted,
		api.RuWritten: (*look).written,
		api.RuOwn:     (*look).own,
		api.RuScan:    (*look).scanned,
		api.RuOrder:   (*look).ordered,
		api.RuMissing: (*look).missing,
		api.RuMatch:   (*look).matched,
		api.RuWant:    (*look).wanted,
	}
}

// places tells the places of the rows that are wrong; they are asked one by one, so that wrong can know what stands ahead.
func places[Row any](rows []Row, wrong func(row Row) bool) iter.Seq[int] {
	return func(yield func(place int) bool) {
		for at, row := range rows {
			if wrong(row) && !yield(at) {
				return
			}
		}
	}
}

// again tells what tells whether it has been asked of the same ahead.
func again[Key comparable]() func(k Key) bool {
	met := map[Key]int{}
	return func(k Key) bool {
		met[k]++
		return met[k] > 1
	}
}

// seen tells what a read, or a scan, tells; of others nothing.
func seen(e api.Event) []api.Seen {
	if e.Kind == api.EvRead {
		return []api.Seen{{Object: e.Object, Version: e.Version}}
	}
	return e.Scan
}

// once tells whether ts are writers of the object, none of them twice.
func (l *look) once(object int, ts []int) bool {
	var left [api.MaxTransactions]bool
	for _, t := range l.writers[object] {
		left[t] = true
	}
	for _, t := range ts {
		if !left[t] {
			return false
		}
		left[t] = false
	}
	return true
}
