package index_test

import (
	"math/rand"
	"slices"
	"strconv"
	"strings"
	"testing"

	"yardarm/api"
	"yardarm/format"
	"yardarm/history"
	"yardarm/index"
	"yardarm/rules"
)

// first is the first version.
var first = api.Version{}

// most and least are the greatest, and the least, of numbers.
const (
	most  = 1<<63 - 1
	least = -1 << 63
)

func ver(t, k int) api.Version { return api.Version{T: t, K: k} }

// read tells the history of the text.
func read(t *testing.T, text string) api.History {
	t.Helper()
	h, _, err := format.Read(text)
	if err != api.OK {
		t.Fatalf("Read of %q is %d", text, err)
	}
	return h
}

// odd tells the numbers of n things, and some that are none.
func odd(n int) []int {
	l := []int{least, -1, n, n + 1, most}
	for i := range n {
		l = append(l, i)
	}
	return l
}

// modelError tells what Check should.
func modelError(h api.History) api.Errno {
	switch {
	case history.Check(h) != api.OK:
		return 210
	case !rules.Sound(h):
		return 250
	}
	return api.OK
}

// modelWrites tells the places of the writes of x by t.
func modelWrites(h api.History, t, x int) []int {
	var l []int
	for at, e := range h.Events {
		if e.Kind == 2 && e.T == t && e.Object == x {
			l = append(l, at)
		}
	}
	return l
}

// modelCommitted tells who has committed, rising.
func modelCommitted(h api.History) []int {
	var l []int
	for _, e := range h.Events {
		if e.Kind == 5 {
			l = append(l, e.T)
		}
	}
	slices.Sort(l)
	return l
}

// modelLine tells who has committed in the session, as they begin.
func modelLine(h api.History, session int) []int {
	var l []int
	for _, e := range h.Events {
		if e.Kind == 1 && e.Session == session && slices.Contains(modelCommitted(h), e.T) {
			l = append(l, e.T)
		}
	}
	return l
}

// modelInstalled tells the installers of x.
func modelInstalled(h api.History, x int) []int {
	at := slices.IndexFunc(h.Orders, func(o api.Order) bool { return o.Object == x })
	if at >= 0 {
		return h.Orders[at].Ts
	}
	var l []int
	for _, t := range modelCommitted(h) {
		if len(modelWrites(h, t, x)) > 0 {
			l = append(l, t)
		}
	}
	return l
}

// modelRanks tells the versions of x that have ranks, by these.
func modelRanks(h api.History, x int) []api.Version {
	l := []api.Version{first}
	for _, t := range modelInstalled(h, x) {
		l = append(l, ver(t, len(modelWrites(h, t, x))))
	}
	return l
}

// modelSights tells what the scan there sees.
func modelSights(h api.History, at int) []api.Seen {
	var l []api.Seen
	scan := h.Events[at]
	for x := range h.Objects {
		s := api.Seen{Object: x}
		for _, place := range modelWrites(h, scan.T, x) {
			if place < at {
				s.Version = ver(scan.T, s.Version.K+1)
			}
		}
		for _, named := range scan.Scan {
			if named.Object == x {
				s = named
			}
		}
		l = append(l, s)
	}
	return l
}

// check holds all calls of h against the model, or against its error.
func check(t *testing.T, h api.History) {
	t.Helper()
	want := modelError(h)
	if err := index.Check(h); err != want {
		t.Errorf("Check of %v is %d, not %d", brief(h), err, want)
	}
	if want != api.OK {
		checkWrong(t, h, want)
		return
	}
	if l, err := index.Committed(h); !slices.Equal(l, modelCommitted(h)) || err != api.OK {
		t.Errorf("Committed of %v is %v, %d", brief(h), l, err)
	}
	for _, x := range odd(len(h.Transactions)) {
		checkBegun(t, h, x)
		for _, object := range odd(len(h.Objects)) {
			checkFinal(t, h, x, object)
		}
	}
	for _, s := range odd(len(h.Sessions)) {
		checkList(t, h, "Line", index.Line, s, len(h.Sessions), modelLine)
	}
	for _, x := range odd(len(h.Objects)) {
		checkList(t, h, "Installed", index.Installed, x, len(h.Objects), modelInstalled)
		checkRanks(t, h, x)
		checkNext(t, h, x)
	}
	for _, at := range odd(len(h.Events)) {
		checkSights(t, h, at)
	}
}

// checkBegun holds what Begun tells of n against the model.
func checkBegun(t *testing.T, h api.History, n int) {
	t.Helper()
	want, no := api.Event{}, api.ErrArg
	if n >= 0 && n < len(h.Transactions) {
		no = api.OK
		for _, e := range h.Events {
			if e.Kind == 1 && e.T == n {
				want = e
			}
		}
	}
	if s, l, err := index.Begun(h, n); s != want.Session || l != want.Level || err != no {
		t.Errorf("Begun of %v, %d is %d, %d, %d; not %v, %d", brief(h), n, s, l, err, want, no)
	}
}

// checkFinal holds what Final tells of n, and x, against the model.
func checkFinal(t *testing.T, h api.History, n, x int) {
	t.Helper()
	l := modelWrites(h, n, x)
	var want api.Version
	var place int
	if len(l) > 0 {
		want, place = ver(n, len(l)), l[len(l)-1]
	}
	if v, at, is := index.Final(h, n, x); v != want || at != place || is != (len(l) > 0) {
		t.Errorf("Final of %v, %d, %d is %v, %d, %v; not %v, %d", brief(h), n, x, v, at, is, want, place)
	}
}

// checkList holds what a call tells of n, one of so many, against the model.
func checkList(t *testing.T, h api.History, name string, call func(h api.History, n int) ([]int, api.Errno), n, many int, model func(h api.History, n int) []int) {
	t.Helper()
	var want []int
	no := api.ErrArg
	if n >= 0 && n < many {
		want, no = model(h, n), api.OK
	}
	if l, err := call(h, n); !slices.Equal(l, want) || err != no {
		t.Errorf("%s of %v, %d is %v, %d; not %v, %d", name, brief(h), n, l, err, want, no)
	}
}

// checkRanks holds what Rank tells of the versions of x against the model.
func checkRanks(t *testing.T, h api.History, x int) {
	t.Helper()
	var ranks []api.Version
	if x >= 0 && x < len(h.Objects) {
		ranks = modelRanks(h, x)
	}
	for _, n := range odd(len(h.Transactions)) {
		for _, k := range odd(4) {
			want := slices.Index(ranks, ver(n, k))
			if rank, is := index.Rank(h, x, ver(n, k)); rank != max(want, 0) || is != (want >= 0) {
				t.Errorf("Rank of %v, %d, %d.%d is %d, %v; not %d", brief(h), x, n, k, rank, is, want)
			}
		}
	}
}

// checkNext holds what Next tells of the ranks of x against the model.
func checkNext(t *testing.T, h api.History, x int) {
	t.Helper()
	var l []int
	if x >= 0 && x < len(h.Objects) {
		l = modelInstalled(h, x)
	}
	for _, rank := range odd(len(l)) {
		want, is := 0, rank >= 0 && rank < len(l)
		if is {
			want = l[rank]
		}
		if n, got := index.Next(h, x, rank); n != want || got != is {
			t.Errorf("Next of %v, %d, %d is %d, %v; not %d, %v", brief(h), x, rank, n, got, want, is)
		}
	}
}

// checkSights holds what Sights tells of the event there against the model.
func checkSights(t *testing.T, h api.History, at int) {
	t.Helper()
	var want []api.Seen
	no := api.ErrArg
	if at >= 0 && at < len(h.Events) && h.Events[at].Kind == 4 {
		want, no = modelSights(h, at), api.OK
	}
	if l, err := index.Sights(h, at); !slices.Equal(l, want) || err != no {
		t.Errorf("Sights of %v, %d is %v, %d; not %v, %d", brief(h), at, l, err, want, no)
	}
}

// checkWrong checks that all calls tell the error, and nothing else, whatever is asked for.
func checkWrong(t *testing.T, h api.History, want api.Errno) {
	t.Helper()
	fine := func(name string, err api.Errno, zero bool) {
		t.Helper()
		if err != want || !zero {
			t.Errorf("%s of %v is not %d alone, but %d", name, brief(h), want, err)
		}
	}
	fine("Check", index.Check(h), true)
	l, err := index.Committed(h)
	fine("Committed", err, l == nil)
	for _, n := range []int{least, -1, 0, 1, 2, len(h.Events), most} {
		s, level, err := index.Begun(h, n)
		fine("Begun", err, s == 0 && level == 0)
		l, err := index.Line(h, n)
		fine("Line", err, l == nil)
		l, err = index.Installed(h, n)
		fine("Installed", err, l == nil)
		sights, err := index.Sights(h, n)
		fine("Sights", err, sights == nil)
		for _, x := range []int{-1, 0, 1, most} {
			v, at, is := index.Final(h, n, x)
			fine("Final", want, v == first && at == 0 && !is)
			rank, is := index.Rank(h, x, ver(n, 1))
			fine("Rank", want, rank == 0 && !is)
			rank, is = index.Rank(h, x, first)
			fine("Rank of the first one", want, rank == 0 && !is)
			next, is := index.Next(h, x, n)
			fine("Next", want, next == 0 && !is)
		}
	}
}

// brief tells h so that it can be shown.
func brief(h api.History) any {
	if len(h.Events)+len(h.Orders)+len(h.Matches)+len(h.Wants) > 40 {
		return "a long history"
	}
	return h
}

// drawing is a text that grows, of a well-formed history.
type drawing struct {
	*rand.Rand
	text     strings.Builder
	begun    map[int]int      // 1 of who has
	ended    map[int]string   // commit, or abort
	writes   map[[2]int]int   // of a transaction and an object
	versions map[int][]string // of an object
}

// drawn tells a history that is drawn so that it is well-formed: of at most so many events, and names of each sort.
func drawn(r *rand.Rand, events, most int) api.History {
	d := &drawing{Rand: r, begun: map[int]int{}, ended: map[int]string{}, writes: map[[2]int]int{}, versions: map[int][]string{}}
	for range r.Intn(events + 1) {
		t := r.Intn(most)
		switch {
		case d.ended[t] != "":
		case d.begun[t] == 0:
			d.begun[t] = 1
			d.line("begin", "t", t, "s", r.Intn(most), []string{"1", "2", "2.99", "3"}[r.Intn(4)])
		default:
			d.event(t, most)
		}
	}
	d.rows(most)
	h, _, err := format.Read(d.text.String())
	if err != api.OK {
		panic(d.text.String())
	}
	return h
}

// line writes one line; texts that are behind a text of one letter, and numbers, are put together.
func (d *drawing) line(parts ...any) {
	for at, part := range parts {
		switch x := part.(type) {
		case int:
			d.text.WriteString(strconv.Itoa(x))
		case string:
			if at > 0 {
				d.text.WriteByte(' ')
			}
			d.text.WriteString(x)
		}
	}
	d.text.WriteByte('\n')
}

// event writes some event of t that has begun, and not ended.
func (d *drawing) event(t, most int) {
	x := d.Intn(most)
	switch d.Intn(10) {
	case 0, 1, 2, 3:
		of := [2]int{t, x}
		d.writes[of]++
		d.versions[x] = append(d.versions[x], "t"+strconv.Itoa(t)+"."+strconv.Itoa(d.writes[of]))
		d.line("write", "t", t, "x", x)
	case 4:
		d.line("read", "t", t, "x", x, d.sight(t, x))
	case 5, 6:
		l := []any{"scan", "t", t, "p", d.Intn(most)}
		for _, x := range d.Perm(most)[:d.Intn(most+1)] {
			l = append(l, "x", x, d.sight(t, x))
		}
		d.line(l...)
	case 7:
		d.ended[t] = "abort"
		d.line("abort", "t", t)
	default:
		d.ended[t] = "commit"
		d.line("commit", "t", t)
	}
}

// sight tells some version of x that t may see.
func (d *drawing) sight(t, x int) string {
	if k := d.writes[[2]int{t, x}]; k > 0 {
		return "t" + strconv.Itoa(t) + "." + strconv.Itoa(k)
	}
	all := append([]string{"-"}, d.versions[x]...)
	return all[d.Intn(len(all))]
}

// rows writes some orders and matches.
func (d *drawing) rows(most int) {
	for _, x := range d.Perm(most) {
		order, match := []any{"order", "x", x}, []any{"match", "p", d.Intn(most), "x", x}
		for _, t := range d.Perm(most) {
			if d.ended[t] == "commit" && d.writes[[2]int{t, x}] > 0 {
				order = append(order, "t", t)
				match = append(match, "t", t)
			}
		}
		if len(order) > 5 || d.Intn(2) == 0 {
			d.line(order...)
		}
		if d.Intn(3) == 0 {
			d.line(match...)
		}
	}
}
