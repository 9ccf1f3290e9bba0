package rules_test

import (
	"math/rand"
	"reflect"
	"slices"
	"strconv"
	"testing"

	"yardarm/api"
	"yardarm/history"
	"yardarm/rules"
)

// first is the first version.
var first = api.Version{}

func ver(t, k int) api.Version               { return api.Version{T: t, K: k} }
func seen(x int, v api.Version) api.Seen     { return api.Seen{Object: x, Version: v} }
func begin(t, s, l int) api.Event            { return api.Event{Kind: 1, T: t, Session: s, Level: l} }
func write(t, x, k int) api.Event            { return api.Event{Kind: 2, T: t, Object: x, Version: ver(t, k)} }
func read(t, x int, v api.Version) api.Event { return api.Event{Kind: 3, T: t, Object: x, Version: v} }
func commit(t int) api.Event                 { return api.Event{Kind: 5, T: t} }
func abort(t int) api.Event                  { return api.Event{Kind: 6, T: t} }
func scan(t, p int, l ...api.Seen) api.Event {
	return api.Event{Kind: 4, T: t, Predicate: p, Scan: l}
}

// many tells n names that begin so, no two the same.
func many(ahead string, n int) []string {
	var l []string
	for i := range n {
		l = append(l, ahead+strconv.Itoa(i))
	}
	return l
}

// some tells how many of l are such.
func some[Row any](l []Row, such func(row Row) bool) int {
	n := 0
	for _, row := range l {
		if such(row) {
			n++
		}
	}
	return n
}

// of tells such events as are of the kind, and the transaction.
func of(kind, t int) func(e api.Event) bool {
	return func(e api.Event) bool { return e.Kind == kind && e.T == t }
}

// writes tells such events as are writes of the transaction, of the object.
func writes(t, object int) func(e api.Event) bool {
	return func(e api.Event) bool { return e.Kind == 2 && e.T == t && e.Object == object }
}

// modelWriters tells the writers of the object, asking all events of each transaction.
func modelWriters(h api.History, object int) []int {
	var l []int
	for t := range h.Transactions {
		if some(h.Events, of(5, t)) > 0 && some(h.Events, writes(t, object)) > 0 {
			l = append(l, t)
		}
	}
	return l
}

// modelPlace tells the least place at which the rule is broken, or -1.
func modelPlace(h api.History, rule int) int {
	switch rule {
	case 7:
		return modelOrder(h)
	case 8:
		return modelMissing(h)
	case 9:
		return modelMatch(h)
	case 10:
		return modelWant(h)
	}
	for at, e := range h.Events {
		if modelEvent(h.Events[:at], e, rule) {
			return at
		}
	}
	return -1
}

// modelEvent tells whether the event breaks the rule, if those ones stand ahead of it.
func modelEvent(ahead []api.Event, e api.Event, rule int) bool {
	switch rule {
	case 1:
		return (e.Kind == 1) == (some(ahead, of(1, e.T)) > 0)
	case 2:
		return some(ahead, of(5, e.T))+some(ahead, of(6, e.T)) > 0
	case 3:
		return e.Kind == 2 && e.Version.K != some(ahead, writes(e.T, e.Object))+1
	}
	sights := e.Scan
	if e.Kind == 3 {
		sights = []api.Seen{seen(e.Object, e.Version)}
	}
	for at, s := range sights {
		var own []api.Event
		for _, other := range ahead {
			if writes(e.T, s.Object)(other) {
				own = append(own, other)
			}
		}
		switch {
		case rule == 4 && s.Version != first && some(ahead, func(other api.Event) bool {
			return other.Kind == 2 && other.Object == s.Object && other.Version == s.Version
		}) == 0:
			return true
		case rule == 5 && len(own) > 0 && own[len(own)-1].Version != s.Version:
			return true
		case rule == 6 && some(sights[:at], func(other api.Seen) bool { return other.Object == s.Object }) > 0:
			return true
		}
	}
	return false
}

func modelOrder(h api.History) int {
	for at, o := range h.Orders {
		ts := slices.Clone(o.Ts)
		slices.Sort(ts)
		if !slices.Equal(ts, modelWriters(h, o.Object)) || some(h.Orders[:at], func(other api.Order) bool { return other.Object == o.Object }) > 0 {
			return at
		}
	}
	return -1
}

func modelMissing(h api.History) int {
	for x := range h.Objects {
		if len(modelWriters(h, x)) >= 2 && some(h.Orders, func(o api.Order) bool { return o.Object == x }) == 0 {
			return x
		}
	}
	return -1
}

func modelMatch(h api.History) int {
	for at, m := range h.Matches {
		if some(h.Matches[:at], func(other api.Match) bool { return other.Predicate == m.Predicate && other.Object == m.Object }) > 0 {
			return at
		}
		for i, t := range m.Ts {
			if !slices.Contains(modelWriters(h, m.Object), t) || slices.Contains(m.Ts[:i], t) {
				return at
			}
		}
	}
	return -1
}

func modelWant(h api.History) int {
	for at, w := range h.Wants {
		if some(h.Wants[:at], func(other api.Want) bool { return other.Session == w.Session }) > 0 {
			return at
		}
		if some(h.Events, func(e api.Event) bool { return e.Kind == 1 && e.Session == w.Session }) == 0 {
			return at
		}
	}
	return -1
}

// modelFirst tells what is wrong; of rule 0, if nothing is.
func modelFirst(h api.History) api.Broken {
	for rule := 1; rule <= 10; rule++ {
		if at := modelPlace(h, rule); at >= 0 {
			return api.Broken{Rule: rule, Place: at}
		}
	}
	return api.Broken{}
}

// odd are rules that are none.
var odd = []int{-1 << 63, -1, 0, 11, 12, 250, 1<<63 - 1}

// check holds all calls of h against the model.
func check(t *testing.T, h api.History) {
	t.Helper()
	if history.Check(h) != api.OK {
		checkWrong(t, h)
		return
	}
	want := modelFirst(h)
	if b, is, err := rules.First(h); b != want || is != (want.Rule > 0) || err != 0 {
		t.Errorf("First of %v is %v, %v, %d; not %v", brief(h), b, is, err, want)
	}
	if is := rules.Sound(h); is != (want.Rule == 0) {
		t.Errorf("Sound of %v is %v", brief(h), is)
	}
	for rule := 1; rule <= 10; rule++ {
		place := modelPlace(h, rule)
		if at, is, err := rules.Place(h, rule); at != max(place, 0) || is != (place >= 0) || err != 0 {
			t.Errorf("Place %d of %v is %d, %v, %d; not %d", rule, brief(h), at, is, err, place)
		}
	}
	for _, rule := range odd {
		if at, is, err := rules.Place(h, rule); at != 0 || is || err != 250 {
			t.Errorf("Place %d of %v is %d, %v, %d", rule, brief(h), at, is, err)
		}
	}
	for x := -1; x <= len(h.Objects); x++ {
		checkWriters(t, h, x, modelWriters(h, x))
	}
}

// checkWriters checks what Writers tells of the object.
func checkWriters(t *testing.T, h api.History, object int, want []int) {
	t.Helper()
	if l, err := rules.Writers(h, object); !slices.Equal(l, want) || err != 0 {
		t.Errorf("Writers of %d in %v is %v, %d; not %v", object, brief(h), l, err, want)
	}
}

// checkWrong checks that h is told not to be, whatever rule, or object, is asked for.
func checkWrong(t *testing.T, h api.History) {
	t.Helper()
	if b, is, err := rules.First(h); b != (api.Broken{}) || is || err != 210 {
		t.Errorf("First of %v is %v, %v, %d", brief(h), b, is, err)
	}
	if rules.Sound(h) {
		t.Errorf("Sound of %v is true", brief(h))
	}
	for _, n := range append(odd, 1, 2, 3, 4, 5, 6, 7, 8, 9, 10) {
		if at, is, err := rules.Place(h, n); at != 0 || is || err != 210 {
			t.Errorf("Place %d of %v is %d, %v, %d", n, brief(h), at, is, err)
		}
		if l, err := rules.Writers(h, n); l != nil || err != 210 {
			t.Errorf("Writers of %d in %v is %v, %d", n, brief(h), l, err)
		}
	}
}

// equal tells whether both are the same; nil and empty lists are one.
func equal(a, b any) bool {
	return reflect.DeepEqual(bare(reflect.ValueOf(a)).Interface(), bare(reflect.ValueOf(b)).Interface())
}

// bare tells v in memory of its own, with nil in the place of each empty list, and of the room behind each end.
func bare(v reflect.Value) reflect.Value {
	b := reflect.New(v.Type()).Elem()
	switch v.Kind() {
	case reflect.Struct:
		for i := range v.NumField() {
			b.Field(i).Set(bare(v.Field(i)))
		}
	case reflect.Slice:
		if v.Len() == 0 {
			return b
		}
		b.Set(reflect.MakeSlice(v.Type(), v.Len(), v.Len()))
		for i := range v.Len() {
			b.Index(i).Set(bare(v.Index(i)))
		}
	default:
		b.Set(v)
	}
	return b
}

// clone tells h in memory of its own.
func clone(h api.History) api.History {
	return bare(reflect.ValueOf(h)).Interface().(api.History)
}

// brief tells h so that it can be shown.
func brief(h api.History) any {
	if len(h.Events)+len(h.Orders)+len(h.Matches)+len(h.Wants) > 40 {
		return "a long history"
	}
	return h
}

// sound tells some history that is well-formed: of at most so many events, and names of each sort.
func sound(r *rand.Rand, events, most int) api.History {
	h := api.History{
		Transactions: many("t", 1+r.Intn(most)), Sessions: many("s", 1+r.Intn(most)),
		Objects: many("x", 1+r.Intn(most)), Predicates: many("p", 1+r.Intn(most)),
	}
	for range r.Intn(events + 1) {
		t := r.Intn(len(h.Transactions))
		switch {
		case some(h.Events, of(5, t))+some(h.Events, of(6, t)) > 0:
		case some(h.Events, of(1, t)) == 0:
			h.Events = append(h.Events, begin(t, r.Intn(len(h.Sessions)), 1+r.Intn(4)))
		default:
			h.Events = append(h.Events, next(r, h, t))
		}
	}
	h.Orders, h.Matches = rows(r, h)
	for _, s := range r.Perm(len(h.Sessions)) {
		if r.Intn(2) == 0 && some(h.Events, func(e api.Event) bool { return e.Kind == 1 && e.Session == s }) > 0 {
			h.Wants = append(h.Wants, api.Want{Session: s, Bits: r.Intn(16)})
		}
	}
	h, _ = history.Number(h)
	return h
}

// next tells some event of t that may stand behind those of h.
func next(r *rand.Rand, h api.History, t int) api.Event {
	x := r.Intn(len(h.Objects))
	switch r.Intn(8) {
	case 0, 1, 2:
		return write(t, x, 1+some(h.Events, writes(t, x)))
	case 3, 4:
		return read(t, x, sight(r, h, t, x))
	case 5:
		var l []api.Seen
		for _, x := range r.Perm(len(h.Objects))[:r.Intn(min(4, len(h.Objects)+1))] {
			l = append(l, seen(x, sight(r, h, t, x)))
		}
		return scan(t, r.Intn(len(h.Predicates)), l...)
	case 6:
		return abort(t)
	}
	return commit(t)
}

// sight tells some version of the object x that t can see behind the events of h.
func sight(r *rand.Rand, h api.History, t, x int) api.Version {
	if n := some(h.Events, writes(t, x)); n > 0 {
		return ver(t, n)
	}
	l := []api.Version{first}
	for _, e := range h.Events {
		if e.Kind == 2 && e.Object == x {
			l = append(l, e.Version)
		}
	}
	return l[r.Intn(len(l))]
}

// rows tells some orders, and matches, that the events of h may have.
func rows(r *rand.Rand, h api.History) ([]api.Order, []api.Match) {
	var orders []api.Order
	var matches []api.Match
	for _, x := range r.Perm(len(h.Objects)) {
		l := modelWriters(h, x)
		r.Shuffle(len(l), func(a, b int) { l[a], l[b] = l[b], l[a] })
		if len(l) > 1 || r.Intn(3) == 0 {
			orders = append(orders, api.Order{Object: x, Ts: l})
		}
		for p := range h.Predicates {
			if r.Intn(3) == 0 {
				matches = append(matches, api.Match{Predicate: p, Object: x, First: r.Intn(2) == 0, Ts: l[:r.Intn(len(l)+1)]})
			}
		}
	}
	return orders, matches
}
