package format_test

import (
	"math/rand"
	"reflect"
	"slices"
	"strconv"
	"strings"
	"testing"

	"yardarm/api"
	"yardarm/format"
	"yardarm/line"
)

var none = api.Told{}

func told(name string, k int) api.Told { return api.Told{Name: name, K: k} }

// of tells a line of names alone.
func of(kind int, names ...string) api.Line { return api.Line{Kind: kind, Names: names} }

func begin(t, s string, level int) api.Line {
	return api.Line{Kind: api.EvBegin, Names: []string{t, s}, Level: level}
}

func write(t, x string) api.Line { return of(api.EvWrite, t, x) }

func read(t, x string, v api.Told) api.Line {
	return api.Line{Kind: api.EvRead, Names: []string{t, x}, Versions: []api.Told{v}}
}

// scan tells a scan of pairs of an object and a version.
func scan(names []string, l ...api.Told) api.Line {
	return api.Line{Kind: api.EvScan, Names: names, Versions: l}
}

func commit(t string) api.Line { return of(api.EvCommit, t) }

func abort(t string) api.Line { return of(api.EvAbort, t) }

func order(x string, ts ...string) api.Line {
	return of(api.LnOrder, append([]string{x}, ts...)...)
}

func match(first bool, p, x string, ts ...string) api.Line {
	return api.Line{Kind: api.LnMatch, Names: append([]string{p, x}, ts...), First: first}
}

func want(s string, bits int) api.Line {
	return api.Line{Kind: api.LnWant, Names: []string{s}, Bits: bits}
}

// many tells n names that begin so, no two the same.
func many(ahead string, n int) []string {
	var l []string
	for i := range n {
		l = append(l, ahead+strconv.Itoa(i))
	}
	return l
}

// equal tells whether both are the same, nil and empty lists being one.
func equal(a, b any) bool {
	return same(reflect.ValueOf(a), reflect.ValueOf(b))
}

func same(a, b reflect.Value) bool {
	switch a.Kind() {
	case reflect.Slice:
		if a.Len() != b.Len() {
			return false
		}
		for at := range a.Len() {
			if !same(a.Index(at), b.Index(at)) {
				return false
			}
		}
		return true
	case reflect.Struct:
		for at := range a.NumField() {
			if !same(a.Field(at), b.Field(at)) {
				return false
			}
		}
		return true
	}
	return a.Interface() == b.Interface()
}

// short tells s, or how it begins.
func short(s string) string {
	if len(s) > 300 {
		return strconv.Quote(s[:300]) + ".."
	}
	return strconv.Quote(s)
}

// plain is the model's history: it asks of all lines anew whatever it wants to know.
type plain struct {
	lines []api.Line
}

// events tells the lines of events.
func (p plain) events() []api.Line {
	var l []api.Line
	for _, x := range p.lines {
		if 1 <= x.Kind && x.Kind <= 6 {
			l = append(l, x)
		}
	}
	return l
}

// of tells the lines of the kind.
func (p plain) of(kind int) []api.Line {
	var l []api.Line
	for _, x := range p.lines {
		if x.Kind == kind {
			l = append(l, x)
		}
	}
	return l
}

// spoken are the names of each sort, as they are spoken of.
type spoken struct {
	ts, ss, xs, ps []string
}

// put tells l with the name, if it is not there yet.
func put(l []string, name string) []string {
	if slices.Contains(l, name) {
		return l
	}
	return append(l, name)
}

// names tells the names, in the order that layer 11 asks for.
func (p plain) names() spoken {
	var n spoken
	for _, x := range p.events() {
		n.ts = put(n.ts, x.Names[0])
		switch x.Kind {
		case 1:
			n.ss = put(n.ss, x.Names[1])
		case 2, 3:
			n.xs = put(n.xs, x.Names[1])
		case 4:
			n.ps = put(n.ps, x.Names[1])
		}
		for at, v := range x.Versions {
			if x.Kind == 4 {
				n.xs = put(n.xs, x.Names[at+2])
			}
			if v.K > 0 {
				n.ts = put(n.ts, v.Name)
			}
		}
	}
	for _, x := range p.of(7) {
		n.xs = put(n.xs, x.Names[0])
		for _, t := range x.Names[1:] {
			n.ts = put(n.ts, t)
		}
	}
	for _, x := range p.of(8) {
		n.ps = put(n.ps, x.Names[0])
		n.xs = put(n.xs, x.Names[1])
		for _, t := range x.Names[2:] {
			n.ts = put(n.ts, t)
		}
	}
	for _, x := range p.of(9) {
		n.ss = put(n.ss, x.Names[0])
	}
	return n
}

// writes tells how many of the lines are a write of x by t.
func writes(l []api.Line, t, x string) int {
	n := 0
	for _, l := range l {
		if l.Kind == 2 && l.Names[0] == t && l.Names[1] == x {
			n++
		}
	}
	return n
}

// tooMuch tells whether there is more than the limits say; what is asked of writes is asked of the last line alone.
func (p plain) tooMuch() bool {
	n := p.names()
	if len(n.ts) > 300 || len(n.ss) > 60 || len(n.xs) > 300 || len(n.ps) > 60 {
		return true
	}
	if max(len(p.events()), len(p.of(7)), len(p.of(8)), len(p.of(9))) > 3000 {
		return true
	}
	last := p.lines[len(p.lines)-1]
	return last.Kind == 2 && writes(p.lines, last.Names[0], last.Names[1]) > 999
}

// numbers tells the places of the names in l.
func numbers(l []string, names []string) []int {
	var ns []int
	for _, name := range names {
		ns = append(ns, slices.Index(l, name))
	}
	return ns
}

// version tells the version that v is.
func (n spoken) version(v api.Told) api.Version {
	if v == none {
		return api.Version{}
	}
	return api.Version{T: slices.Index(n.ts, v.Name), K: v.K}
}

// history tells the history of the lines.
func (p plain) history() api.History {
	n := p.names()
	h := api.History{Transactions: n.ts, Sessions: n.ss, Objects: n.xs, Predicates: n.ps}
	events := p.events()
	for at, x := range events {
		e := api.Event{Kind: x.Kind, T: slices.Index(n.ts, x.Names[0]), Level: x.Level}
		switch x.Kind {
		case 1:
			e.Session = slices.Index(n.ss, x.Names[1])
		case 2:
			e.Object = slices.Index(n.xs, x.Names[1])
			e.Version = api.Version{T: e.T, K: writes(events[:at+1], x.Names[0], x.Names[1])}
		case 3:
			e.Object = slices.Index(n.xs, x.Names[1])
			e.Version = n.version(x.Versions[0])
		case 4:
			e.Predicate = slices.Index(n.ps, x.Names[1])
			for at, v := range x.Versions {
				e.Scan = append(e.Scan, api.Seen{Object: slices.Index(n.xs, x.Names[at+2]), Version: n.version(v)})
			}
		}
		h.Events = append(h.Events, e)
	}
	for _, x := range p.of(7) {
		h.Orders = append(h.Orders, api.Order{Object: slices.Index(n.xs, x.Names[0]), Ts: numbers(n.ts, x.Names[1:])})
	}
	for _, x := range p.of(8) {
		h.Matches = append(h.Matches, api.Match{
			Predicate: slices.Index(n.ps, x.Names[0]), Object: slices.Index(n.xs, x.Names[1]), First: x.First, Ts: numbers(n.ts, x.Names[2:]),
		})
	}
	for _, x := range p.of(9) {
		h.Wants = append(h.Wants, api.Want{Session: slices.Index(n.ss, x.Names[0]), Bits: x.Bits})
	}
	return h
}

// modelOf is Of, as the chapter's words say it.
func modelOf(l []api.Line) (api.History, int, api.Errno) {
	for at, x := range l {
		if line.Check(x) != api.OK {
			return api.History{}, at, 220
		}
		if (plain{l[:at+1]}).tooMuch() {
			return api.History{}, at, 6
		}
	}
	return plain{l}.history(), len(l), 0
}

// modelLines is Lines: the text is cut behind each line feed, and each piece is read as if nothing else was there.
func modelLines(text string) ([]api.Line, []int, int, api.Errno) {
	if len(text) > 131072 {
		return nil, nil, 0, 3
	}
	var all []api.Line
	var begins []int
	at := 0
	for _, piece := range strings.SplitAfter(text, "\n") {
		if piece == "" {
			continue
		}
		l, end, err := line.Read(piece, 0)
		if err != api.OK {
			return nil, nil, at + end, err
		}
		all, begins = append(all, l), append(begins, at)
		at += len(piece)
	}
	return all, begins, at, 0
}

// modelRead is Read.
func modelRead(text string) (api.History, int, api.Errno) {
	all, begins, end, err := modelLines(text)
	if err != api.OK {
		return api.History{}, end, err
	}
	h, at, err := modelOf(all)
	if err != api.OK {
		return api.History{}, begins[at], err
	}
	return h, len(text), 0
}

// checkOf holds Of against the model.
func checkOf(t *testing.T, l []api.Line) {
	t.Helper()
	got, at, err := format.Of(l)
	if want, wantAt, wantErr := modelOf(l); !equal(got, want) || at != wantAt || err != wantErr {
		t.Errorf("Of %s is %v, %d, %d; not %v, %d, %d", short(text(l)), got, at, err, want, wantAt, wantErr)
	}
}

// checkText holds Lines and Read of s against the model.
func checkText(t *testing.T, s string) {
	t.Helper()
	l, begins, at, err := format.Lines(s)
	if want, wantBegins, wantAt, wantErr := modelLines(s); !equal(l, want) || !equal(begins, wantBegins) || at != wantAt || err != wantErr {
		t.Errorf("Lines of %s is %v, %v, %d, %d; not %v, %v, %d, %d", short(s), l, begins, at, err, want, wantBegins, wantAt, wantErr)
	}
	h, at, err := format.Read(s)
	if want, wantAt, wantErr := modelRead(s); !equal(h, want) || at != wantAt || err != wantErr {
		t.Errorf("Read of %s is %v, %d, %d; not %v, %d, %d", short(s), h, at, err, want, wantAt, wantErr)
	}
}

// text tells the lines' texts, one behind the other; of a line that may not be its kind.
func text(l []api.Line) string {
	var b strings.Builder
	for _, x := range l {
		s, err := line.Text(x)
		if err != api.OK {
			s = "?" + strconv.Itoa(x.Kind) + "\n"
		}
		b.WriteString(s)
	}
	return b.String()
}

// drawer draws lines of few names.
type drawer struct {
	*rand.Rand
	ts, ss, xs, ps []string
}

// newDrawer tells a drawer whose names are the same for all sorts, or others for each.
func newDrawer(seed int64, n int) *drawer {
	d := &drawer{Rand: rand.New(rand.NewSource(seed))}
	if seed%3 == 0 {
		d.ts = many("é", n)
		d.ss, d.xs, d.ps = d.ts, d.ts, d.ts
		return d
	}
	d.ts, d.ss, d.xs, d.ps = many("T", n), many("s", n), many("x", n), many("P", n)
	return d
}

func (d *drawer) one(l []string) string { return l[d.Intn(len(l))] }

// some tells at most n of the names.
func (d *drawer) some(l []string, n int) []string {
	var some []string
	for range d.Intn(n + 1) {
		some = append(some, d.one(l))
	}
	return some
}

func (d *drawer) version() api.Told {
	if d.Intn(3) == 0 {
		return none
	}
	return told(d.one(d.ts), 1+d.Intn(3))
}

// line tells a line that may be.
func (d *drawer) line() api.Line {
	switch d.Intn(12) {
	case 0:
		return api.Line{}
	case 1:
		return begin(d.one(d.ts), d.one(d.ss), 1+d.Intn(4))
	case 2, 3, 4:
		return write(d.one(d.ts), d.one(d.xs))
	case 5:
		return read(d.one(d.ts), d.one(d.xs), d.version())
	case 6:
		names := append([]string{d.one(d.ts), d.one(d.ps)}, d.some(d.xs, 4)...)
		var l []api.Told
		for range names[2:] {
			l = append(l, d.version())
		}
		return scan(names, l...)
	case 7:
		return commit(d.one(d.ts))
	case 8:
		return abort(d.one(d.ts))
	case 9:
		return order(d.one(d.xs), d.some(d.ts, 4)...)
	case 10:
		return match(d.Intn(2) == 0, d.one(d.ps), d.one(d.xs), d.some(d.ts, 4)...)
	}
	return want(d.one(d.ss), d.Intn(16))
}

// lines tells at most n lines that may be.
func (d *drawer) lines(n int) []api.Line {
	var l []api.Line
	for range d.Intn(n + 1) {
		l = append(l, d.line())
	}
	return l
}

// wrong tells a line that may not be.
func (d *drawer) wrong() api.Line {
	for {
		l := d.line()
		switch d.Intn(7) {
		case 0:
			l.Kind = []int{-1, 10, 99, l.Kind + 1}[d.Intn(4)]
		case 1:
			l.Names = append(l.Names, "y")
		case 2:
			l.Names = l.Names[:max(0, len(l.Names)-1)]
		case 3:
			l.Level += 1 + d.Intn(4)
		case 4:
			l.Versions = append(l.Versions, []api.Told{none, told("T", 1000), told("", 1), told("T", 0)}[d.Intn(4)])
		case 5:
			l.First = true
		case 6:
			l.Bits += 1 << d.Intn(5)
		}
		if line.Check(l) != api.OK {
			return l
		}
	}
}

// clone tells l in memory of its own.
func clone(l []api.Line) []api.Line {
	l = slices.Clone(l)
	for at := range l {
		l[at].Names = slices.Clone(l[at].Names)
		l[at].Versions = slices.Clone(l[at].Versions)
	}
	return l
}
