package history_test

import (
	"math"
	"math/rand"
	"reflect"
	"slices"
	"strconv"
	"strings"
	"testing"
	"unicode/utf8"

	"yardarm/api"
)

// first is the first version.
var first = api.Version{}

func ver(t, k int) api.Version               { return api.Version{T: t, K: k} }
func seen(x int, v api.Version) api.Seen     { return api.Seen{Object: x, Version: v} }
func begin(t, s, l int) api.Event            { return api.Event{Kind: 1, T: t, Session: s, Level: l} }
func write(t, x, k int) api.Event            { return api.Event{Kind: 2, T: t, Object: x, Version: ver(t, k)} }
func read(t, x int, v api.Version) api.Event { return api.Event{Kind: 3, T: t, Object: x, Version: v} }
func commit(t int) api.Event                 { return api.Event{Kind: 5, T: t} }
func abort(t int) api.Event                  { return api.Event{Kind: 6, T: t} }
func scan(t, p int, l ...api.Seen) api.Event {
	return api.Event{Kind: 4, T: t, Predicate: p, Scan: l}
}

// plain is the chapter's own history.
func plain() api.History {
	return api.History{
		Transactions: []string{"t"}, Sessions: []string{"s"}, Objects: []string{"x"},
		Events: []api.Event{begin(0, 0, 1), write(0, 0, 1), commit(0)},
	}
}

// rich has all that a history can have, and may be.
func rich() api.History {
	return api.History{
		Transactions: []string{"t", "u", "v", "w", "a", "b"},
		Sessions:     []string{"s", "t", "q"},
		Objects:      []string{"x", "y", "z", "o", "n"},
		Predicates:   []string{"p", "x", "r"},
		Events: []api.Event{
			begin(0, 0, 1), write(0, 0, 1), read(1, 1, ver(2, 999)), begin(1, 1, 4),
			scan(1, 0, seen(0, first), seen(2, ver(3, 1)), seen(2, ver(0, 7))), scan(2, 1),
			read(0, 2, first), begin(0, 1, 3), write(3, 1, 999), commit(0), abort(1), commit(0), write(0, 0, 2),
		},
		Orders:  []api.Order{{Object: 0, Ts: []int{1, 0, 1}}, {Object: 3, Ts: []int{4}}, {Object: 0}},
		Matches: []api.Match{{Predicate: 2, Object: 4, First: true, Ts: []int{5, 0}}, {Predicate: 0, Object: 1}},
		Wants:   []api.Want{{Session: 1, Bits: 15}, {Session: 2, Bits: 0}, {Session: 2, Bits: 6}},
	}
}

// bases are histories that may be.
func bases() []api.History {
	alone := api.History{Objects: []string{"x"}, Orders: []api.Order{{}}}
	wanted := api.History{Sessions: []string{"s"}, Wants: []api.Want{{}}}
	return []api.History{{}, plain(), rich(), alone, wanted}
}

// isWord tells whether s is a word.
func isWord(s string) bool {
	if s == "" || len(s) > 24 || !utf8.ValidString(s) || strings.ContainsRune("0123456789", rune(s[0])) {
		return false
	}
	const may = "0123456789_abcdefghijklmnopqrstuvwxyzABCDEFGHIJKLMNOPQRSTUVWXYZ"
	return !strings.ContainsFunc(s, func(r rune) bool { return r < 128 && !strings.ContainsRune(may, r) })
}

// areNames tells whether l are so many names at most, no two alike.
func areNames(l []string, most int) bool {
	for n, s := range l {
		if !isWord(s) || slices.Index(l, s) != n {
			return false
		}
	}
	return len(l) <= most
}

// of tells whether n is a number of one of the names.
func of(n int, l []string) bool {
	return 0 <= n && n < len(l)
}

// isTold tells whether v may be told.
func isTold(h api.History, v api.Version) bool {
	return v == first || of(v.T, h.Transactions) && 1 <= v.K && v.K <= 999
}

// isEvent tells whether e may be an event of h.
func isEvent(h api.History, e api.Event) bool {
	if !of(e.T, h.Transactions) {
		return false
	}
	noBegin, noScan := e.Session == 0 && e.Level == 0, e.Predicate == 0 && len(e.Scan) == 0
	noObject := e.Object == 0 && e.Version == first
	switch e.Kind {
	case 1:
		return of(e.Session, h.Sessions) && 1 <= e.Level && e.Level <= 4 && noObject && noScan
	case 2:
		return noBegin && noScan && of(e.Object, h.Objects) && isTold(h, e.Version) && e.Version.T == e.T && e.Version.K >= 1
	case 3:
		return noBegin && noScan && of(e.Object, h.Objects) && isTold(h, e.Version)
	case 4:
		for _, s := range e.Scan {
			if !of(s.Object, h.Objects) || !isTold(h, s.Version) {
				return false
			}
		}
		return noBegin && noObject && of(e.Predicate, h.Predicates) && len(e.Scan) <= 40
	}
	return (e.Kind == 5 || e.Kind == 6) && noBegin && noObject && noScan
}

// isLoose tells whether h may be, however its names are numbered.
func isLoose(h api.History) bool {
	areTs := func(l []int) bool {
		return len(l) <= 300 && !slices.ContainsFunc(l, func(t int) bool { return !of(t, h.Transactions) })
	}
	named := areNames(h.Transactions, 300) && areNames(h.Sessions, 60) && areNames(h.Objects, 300) && areNames(h.Predicates, 60)
	if !named || len(h.Events) > 3000 || len(h.Orders) > 3000 || len(h.Matches) > 3000 || len(h.Wants) > 3000 {
		return false
	}
	for _, e := range h.Events {
		if !isEvent(h, e) {
			return false
		}
	}
	for _, o := range h.Orders {
		if !of(o.Object, h.Objects) || !areTs(o.Ts) {
			return false
		}
	}
	for _, m := range h.Matches {
		if !of(m.Predicate, h.Predicates) || !of(m.Object, h.Objects) || !areTs(m.Ts) {
			return false
		}
	}
	for _, w := range h.Wants {
		if !of(w.Session, h.Sessions) || w.Bits < 0 || w.Bits > 15 {
			return false
		}
	}
	return true
}

// met are the numbers of the names that are spoken of, each once, of transactions, sessions, objects, and predicates.
type met [4][]int

func (m *met) add(sort int, numbers ...int) {
	for _, n := range numbers {
		if !slices.Contains(m[sort], n) {
			m[sort] = append(m[sort], n)
		}
	}
}

// spoken tells what is spoken of in h.
func spoken(h api.History) met {
	var m met
	version := func(v api.Version) {
		if v.K != 0 {
			m.add(0, v.T)
		}
	}
	for _, e := range h.Events {
		m.add(0, e.T)
		switch e.Kind {
		case 1:
			m.add(1, e.Session)
		case 2, 3:
			m.add(2, e.Object)
		case 4:
			m.add(3, e.Predicate)
		}
		version(e.Version)
		for _, s := range e.Scan {
			m.add(2, s.Object)
			version(s.Version)
		}
	}
	for _, o := range h.Orders {
		m.add(2, o.Object)
		m.add(0, o.Ts...)
	}
	for _, x := range h.Matches {
		m.add(3, x.Predicate)
		m.add(2, x.Object)
		m.add(0, x.Ts...)
	}
	for _, w := range h.Wants {
		m.add(1, w.Session)
	}
	return m
}

// may tells whether h may be.
func may(h api.History) bool {
	if !isLoose(h) {
		return false
	}
	m := spoken(h)
	for sort, l := range [][]string{h.Transactions, h.Sessions, h.Objects, h.Predicates} {
		if len(m[sort]) != len(l) || !slices.IsSorted(m[sort]) {
			return false
		}
	}
	return true
}

// anew tells h numbered anew, h being loose.
func anew(h api.History) api.History {
	m := spoken(h)
	pick := func(sort int, l []string) []string {
		var names []string
		for _, n := range m[sort] {
			names = append(names, l[n])
		}
		return names
	}
	number := func(sort int, n *int) { *n = slices.Index(m[sort], *n) }
	all := func(l []int) []int {
		l = slices.Clone(l)
		for at := range l {
			number(0, &l[at])
		}
		return l
	}
	version := func(v *api.Version) {
		if v.K != 0 {
			number(0, &v.T)
		}
	}
	a := api.History{
		Transactions: pick(0, h.Transactions), Sessions: pick(1, h.Sessions), Objects: pick(2, h.Objects), Predicates: pick(3, h.Predicates),
	}
	for _, e := range h.Events {
		number(0, &e.T)
		switch e.Kind {
		case 1:
			number(1, &e.Session)
		case 2, 3:
			number(2, &e.Object)
			version(&e.Version)
		case 4:
			number(3, &e.Predicate)
		}
		e.Scan = slices.Clone(e.Scan)
		for at := range e.Scan {
			number(2, &e.Scan[at].Object)
			version(&e.Scan[at].Version)
		}
		a.Events = append(a.Events, e)
	}
	for _, o := range h.Orders {
		number(2, &o.Object)
		a.Orders = append(a.Orders, api.Order{Object: o.Object, Ts: all(o.Ts)})
	}
	for _, x := range h.Matches {
		number(3, &x.Predicate)
		number(2, &x.Object)
		a.Matches = append(a.Matches, api.Match{Predicate: x.Predicate, Object: x.Object, First: x.First, Ts: all(x.Ts)})
	}
	for _, w := range h.Wants {
		number(1, &w.Session)
		a.Wants = append(a.Wants, w)
	}
	return a
}

// completed tells h completed, whatever its length.
func completed(h api.History) api.History {
	h.Events = slices.Clone(h.Events)
	before := slices.Clone(h.Events)
	for t := range h.Transactions {
		has := func(kinds ...int) bool {
			return slices.ContainsFunc(before, func(e api.Event) bool { return e.T == t && slices.Contains(kinds, e.Kind) })
		}
		if has(1) && !has(5, 6) {
			h.Events = append(h.Events, abort(t))
		}
	}
	return h
}

// equal tells whether both are the same; nil and empty lists are one.
func equal(a, b any) bool {
	return reflect.DeepEqual(bare(reflect.ValueOf(a)).Interface(), bare(reflect.ValueOf(b)).Interface())
}

// bare tells v in memory of its own, with nil in the place of each empty list, and of the room behind each end.
func bare(v reflect.Value) reflect.Value {
	b := reflect.New(v.Type()).Elem()
	switch v.Kind() {
	case reflect.Struct:
		for i := range v.NumField() {
			b.Field(i).Set(bare(v.Field(i)))
		}
	case reflect.Slice:
		for i := range v.Len() {
			b.Set(reflect.Append(b, bare(v.Index(i))))
		}
	default:
		b.Set(v)
	}
	return b
}

// clone tells h in memory of its own.
func clone(h api.History) api.History {
	return bare(reflect.ValueOf(h)).Interface().(api.History)
}

// ints tells where all whole numbers of h stand.
func ints(h *api.History) []*int {
	var all []*int
	parts(reflect.ValueOf(h).Elem(), func(v reflect.Value) {
		if p, is := v.Addr().Interface().(*int); is {
			all = append(all, p)
		}
	})
	return all
}

// parts tells all parts of v, and of these.
func parts(v reflect.Value, tell func(v reflect.Value)) {
	tell(v)
	switch v.Kind() {
	case reflect.Struct:
		for i := range v.NumField() {
			parts(v.Field(i), tell)
		}
	case reflect.Slice:
		for i := range v.Len() {
			parts(v.Index(i), tell)
		}
	}
}

// values are numbers that may stand somewhere, and that may stand nowhere.
var values = []int{
	math.MinInt, -1 << 32, -1<<32 + 1, -1, 0, 1, 2, 3, 4, 5, 6, 7, 15, 16, 40, 60, 255, 256, 299, 300, 998, 999, 1000, 1 << 16, 1 << 32, 1<<32 + 1, math.MaxInt,
}

// names tells n names.
func names(ahead string, n int) []string {
	var l []string
	for i := range n {
		l = append(l, ahead+strconv.Itoa(i))
	}
	return l
}

// drawn tells some history that is loose.
func drawn(r *rand.Rand) api.History {
	h := api.History{
		Transactions: names("t", 1+r.Intn(4)), Sessions: names("s", 1+r.Intn(3)), Objects: names("x", 1+r.Intn(4)), Predicates: names("p", 1+r.Intn(3)),
	}
	t := func() int { return r.Intn(len(h.Transactions)) }
	s := func() int { return r.Intn(len(h.Sessions)) }
	x := func() int { return r.Intn(len(h.Objects)) }
	p := func() int { return r.Intn(len(h.Predicates)) }
	v := func() api.Version { return []api.Version{first, ver(t(), 1), ver(t(), 1+r.Intn(999))}[r.Intn(3)] }
	ts := func() []int {
		var l []int
		for range r.Intn(4) {
			l = append(l, t())
		}
		return l
	}
	see := func() []api.Seen {
		var l []api.Seen
		for range r.Intn(4) {
			l = append(l, seen(x(), v()))
		}
		return l
	}
	for range r.Intn(8) {
		all := []api.Event{begin(t(), s(), 1+r.Intn(4)), write(t(), x(), 1+r.Intn(999)), read(t(), x(), v()), scan(t(), p(), see()...), commit(t()), abort(t())}
		h.Events = append(h.Events, all[r.Intn(6)])
	}
	for range r.Intn(3) {
		h.Orders = append(h.Orders, api.Order{Object: x(), Ts: ts()})
	}
	for range r.Intn(3) {
		h.Matches = append(h.Matches, api.Match{Predicate: p(), Object: x(), First: r.Intn(2) == 0, Ts: ts()})
	}
	for range r.Intn(3) {
		h.Wants = append(h.Wants, api.Want{Session: s(), Bits: r.Intn(16)})
	}
	return h
}

// checkError checks an error that a call told.
func checkError(t *testing.T, call string, h api.History, got, want api.Errno) {
	t.Helper()
	if got != want {
		t.Errorf("%s of %v is %d, not %d", call, brief(h), got, want)
	}
}

// brief tells h so that it can be shown.
func brief(h api.History) any {
	if len(h.Events)+len(h.Orders)+len(h.Matches)+len(h.Wants) > 40 {
		return "a long history"
	}
	return h
}
