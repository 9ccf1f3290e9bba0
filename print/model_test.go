package print_test

import (
	"fmt"
	"math/rand"
	"reflect"
	"slices"
	"strconv"
	"strings"
	"testing"

	"yardarm/api"
	"yardarm/history"
	"yardarm/print"
)

// first is the first version.
var first = api.Version{}

func ver(t, k int) api.Version               { return api.Version{T: t, K: k} }
func seen(x int, v api.Version) api.Seen     { return api.Seen{Object: x, Version: v} }
func begin(t, s, l int) api.Event            { return api.Event{Kind: 1, T: t, Session: s, Level: l} }
func write(t, x, k int) api.Event            { return api.Event{Kind: 2, T: t, Object: x, Version: ver(t, k)} }
func read(t, x int, v api.Version) api.Event { return api.Event{Kind: 3, T: t, Object: x, Version: v} }
func commit(t int) api.Event                 { return api.Event{Kind: 5, T: t} }
func abort(t int) api.Event                  { return api.Event{Kind: 6, T: t} }
func scan(t, p int, l ...api.Seen) api.Event {
	return api.Event{Kind: 4, T: t, Predicate: p, Scan: l}
}

// many tells n names that begin so, no two the same.
func many(ahead string, n int) []string {
	var l []string
	for i := range n {
		l = append(l, ahead+strconv.Itoa(i))
	}
	return l
}

// isCounted tells by which K each write is counted, asking all events ahead of it, and whether that is the one that it has.
func isCounted(h api.History) ([]int, bool) {
	var ks []int
	is := true
	for at, e := range h.Events {
		k := 0
		if e.Kind == 2 {
			k = 1
			for _, ahead := range h.Events[:at] {
				if ahead.Kind == 2 && ahead.T == e.T && ahead.Object == e.Object {
					k++
				}
			}
			is = is && k == e.Version.K
		}
		ks = append(ks, k)
	}
	return ks, is
}

// modelText tells the text of h, which may be, word by word.
func modelText(h api.History) string {
	levels := []string{"?", "1", "2", "2.99", "3"}
	version := func(v api.Version) string {
		if v.K == 0 {
			return "-"
		}
		return fmt.Sprintf("%s.%d", h.Transactions[v.T], v.K)
	}
	var all []string
	say := func(words ...string) { all = append(all, strings.Join(words, " ")+"\n") }
	for _, e := range h.Events {
		t := h.Transactions[e.T]
		switch e.Kind {
		case 1:
			say("begin", t, h.Sessions[e.Session], levels[e.Level])
		case 2:
			say("write", t, h.Objects[e.Object])
		case 3:
			say("read", t, h.Objects[e.Object], version(e.Version))
		case 4:
			words := []string{"scan", t, h.Predicates[e.Predicate]}
			for _, s := range e.Scan {
				words = append(words, h.Objects[s.Object], version(s.Version))
			}
			say(words...)
		case 5:
			say("commit", t)
		case 6:
			say("abort", t)
		}
	}
	for _, o := range h.Orders {
		words := []string{"order", h.Objects[o.Object]}
		for _, t := range o.Ts {
			words = append(words, h.Transactions[t])
		}
		say(words...)
	}
	for _, m := range h.Matches {
		words := []string{"match", h.Predicates[m.Predicate], h.Objects[m.Object]}
		if m.First {
			words = append(words, "-")
		}
		for _, t := range m.Ts {
			words = append(words, h.Transactions[t])
		}
		say(words...)
	}
	for _, w := range h.Wants {
		words := []string{"want", h.Sessions[w.Session]}
		for bit, word := range []string{"ryw", "mr", "mw", "wfr"} {
			if w.Bits&(1<<bit) != 0 {
				words = append(words, word)
			}
		}
		say(words...)
	}
	return strings.Join(all, "")
}

// modelLines tells the lines of h by the words of its text alone.
func modelLines(h api.History) []api.Line {
	heads := []string{"", "begin", "write", "read", "scan", "commit", "abort", "order", "match", "want"}
	var all []api.Line
	for s := range strings.Lines(modelText(h)) {
		words := strings.Fields(s)
		l := api.Line{Kind: slices.Index(heads, words[0])}
		if l.Kind == 1 {
			l.Level = slices.Index([]string{"", "1", "2", "2.99", "3"}, words[3])
			words = words[:3]
		}
		for at, word := range words[1:] {
			bit := slices.Index([]string{"ryw", "mr", "mw", "wfr"}, word)
			name, k, dot := strings.Cut(word, ".")
			switch {
			case l.Kind == 8 && word == "-":
				l.First = true
			case l.Kind == 9 && at > 0 && bit >= 0:
				l.Bits |= 1 << bit
			case word == "-":
				l.Versions = append(l.Versions, api.Told{})
			case dot:
				n, _ := strconv.Atoi(k)
				l.Versions = append(l.Versions, api.Told{Name: name, K: n})
			default:
				l.Names = append(l.Names, word)
			}
		}
		all = append(all, l)
	}
	return all
}

// modelCount tells h with its writes counted, or that there are too many of some.
func modelCount(h api.History) (api.History, api.Errno) {
	h = clone(h)
	ks, _ := isCounted(h)
	for at, k := range ks {
		if k > 999 {
			return api.History{}, 6
		}
		if k > 0 {
			h.Events[at].Version.K = k
		}
	}
	return h, 0
}

// check holds all calls of h against the model.
func check(t *testing.T, h api.History) {
	t.Helper()
	if history.Check(h) != api.OK {
		checkWrong(t, h)
		return
	}
	text := modelText(h)
	if l, err := print.Lines(h); !equal(l, modelLines(h)) || err != 0 {
		t.Errorf("Lines of %s is %v, %d", short(text), l, err)
	}
	want, wantErr := text, api.Errno(0)
	if len(text) > 131072 {
		want, wantErr = "", 3
	}
	if s, err := print.Text(h); s != want || err != wantErr {
		t.Errorf("Text is %s, %d; not %s, %d", short(s), err, short(want), wantErr)
	}
	if _, is := isCounted(h); print.Counted(h) != is {
		t.Errorf("Counted of %v is %v", brief(h), !is)
	}
	counted, wantErr := modelCount(h)
	if c, err := print.Count(h); !equal(c, counted) || err != wantErr {
		t.Errorf("Count of %v is %v, %d; not %v, %d", brief(h), brief(c), err, brief(counted), wantErr)
	}
}

// checkWrong checks that h is told not to be.
func checkWrong(t *testing.T, h api.History) {
	t.Helper()
	if l, err := print.Lines(h); l != nil || err != 210 {
		t.Errorf("Lines of %v is %v, %d", brief(h), l, err)
	}
	if s, err := print.Text(h); s != "" || err != 210 {
		t.Errorf("Text of %v is %q, %d", brief(h), s, err)
	}
	if print.Counted(h) {
		t.Errorf("Counted of %v is true", brief(h))
	}
	if c, err := print.Count(h); !equal(c, api.History{}) || err != 210 {
		t.Errorf("Count of %v is %v, %d", brief(h), c, err)
	}
}

// equal tells whether both are the same; nil and empty lists are one.
func equal(a, b any) bool {
	return reflect.DeepEqual(bare(reflect.ValueOf(a)).Interface(), bare(reflect.ValueOf(b)).Interface())
}

// bare tells v in memory of its own, with nil in the place of each empty list, and of the room behind each end.
func bare(v reflect.Value) reflect.Value {
	b := reflect.New(v.Type()).Elem()
	switch v.Kind() {
	case reflect.Struct:
		for i := range v.NumField() {
			b.Field(i).Set(bare(v.Field(i)))
		}
	case reflect.Slice:
		if v.Len() == 0 {
			return b
		}
		b.Set(reflect.MakeSlice(v.Type(), v.Len(), v.Len()))
		for i := range v.Len() {
			b.Index(i).Set(bare(v.Index(i)))
		}
	default:
		b.Set(v)
	}
	return b
}

// clone tells h in memory of its own.
func clone(h api.History) api.History {
	return bare(reflect.ValueOf(h)).Interface().(api.History)
}

// drawn tells some history that may be: of at most so many events, and names of each sort.
func drawn(r *rand.Rand, events, most int) api.History {
	draw := func(ahead string) []string { return many(ahead, 1+r.Intn(most)) }
	h := api.History{Transactions: draw("t"), Sessions: draw("s"), Objects: draw("x"), Predicates: draw("p")}
	if r.Intn(3) == 0 {
		h.Sessions, h.Objects, h.Predicates = slices.Clone(h.Transactions), slices.Clone(h.Transactions), slices.Clone(h.Transactions)
	}
	t := func() int { return r.Intn(len(h.Transactions)) }
	s := func() int { return r.Intn(len(h.Sessions)) }
	x := func() int { return r.Intn(len(h.Objects)) }
	p := func() int { return r.Intn(len(h.Predicates)) }
	v := func() api.Version { return []api.Version{first, ver(t(), 1), ver(t(), 1+r.Intn(999))}[r.Intn(3)] }
	for range r.Intn(events + 1) {
		var see []api.Seen
		for range r.Intn(4) {
			see = append(see, seen(x(), v()))
		}
		k := []int{1, 2, 1 + r.Intn(999)}[r.Intn(3)]
		all := []api.Event{begin(t(), s(), 1+r.Intn(4)), write(t(), x(), k), write(t(), x(), k), read(t(), x(), v()), scan(t(), p(), see...), commit(t()), abort(t())}
		h.Events = append(h.Events, all[r.Intn(len(all))])
	}
	ts := func() []int {
		var l []int
		for range r.Intn(4) {
			l = append(l, t())
		}
		return l
	}
	for range r.Intn(3) {
		h.Orders = append(h.Orders, api.Order{Object: x(), Ts: ts()})
	}
	for range r.Intn(3) {
		h.Matches = append(h.Matches, api.Match{Predicate: p(), Object: x(), First: r.Intn(2) == 0, Ts: ts()})
	}
	for range r.Intn(3) {
		h.Wants = append(h.Wants, api.Want{Session: s(), Bits: r.Intn(16)})
	}
	h, _ = history.Number(h)
	if r.Intn(2) == 0 {
		h, _ = modelCount(h)
	}
	return h
}

// short tells s, or how it begins.
func short(s string) string {
	if len(s) > 300 {
		return strconv.Quote(s[:300]) + ".."
	}
	return strconv.Quote(s)
}

// brief tells h so that it can be shown.
func brief(h api.History) any {
	if len(h.Events)+len(h.Orders)+len(h.Matches)+len(h.Wants) > 40 {
		return "a long history"
	}
	return h
}
