package format

import (
	"yardarm/api"
	"yardarm/line"
)

// The sorts of names.
const (
	transactions = iota
	sessions
	objects
	predicates
	sorts
)

// most is how many names of each sort there are at most.
var most = [sorts]int{api.MaxTransactions, api.MaxSessions, api.MaxObjects, api.MaxPredicates}

// name is a name of a sort.
type name struct {
	sort int
	text string
}

// writing is who writes, and what.
type writing struct {
	t, object int
}

// reading is a history that grows line by line. Its names are numbered as they are met, whatever the lines' kinds.
type reading struct {
	api.History
	numbers map[name]int
	writes  map[writing]int // how many of each have been told
	at      int             // how many lines have been gone through
}

// through goes through the lines, up to the one that may not be, or at which there is too much.
func (r *reading) through(l []api.Line) (err api.Errno) {
	defer func() {
		if left, is := recover().(api.Errno); is {
			err = left
		}
	}()
	says := r.kinds()
	for _, x := range l {
		if err := line.Check(x); err != api.OK {
			return err
		}
		says[x.Kind](x)
		r.at++
	}
	return api.OK
}

// kinds tells of each kind what its lines say.
func (r *reading) kinds() [api.LnWant + 1]func(l api.Line) {
	return [...]func(l api.Line){
		0:            r.nothing,
		api.EvBegin:  r.begin,
		api.EvWrite:  r.write,
		api.EvRead:   r.read,
		api.EvScan:   r.scan,
		api.EvCommit: r.end,
		api.EvAbort:  r.end,
		api.LnOrder:  r.order,
		api.LnMatch:  r.match,
		api.LnWant:   r.want,
	}
}

func (r *reading) nothing(api.Line) {}

func (r *reading) begin(l api.Line) {
	r.event(l, api.Event{Session: r.number(sessions, l.Names[1]), Level: l.Level})
}

func (r *reading) write(l api.Line) {
	of := writing{r.number(transactions, l.Names[0]), r.number(objects, l.Names[1])}
	room(r.writes[of], api.MaxWrites)
	r.writes[of]++
	r.event(l, api.Event{Object: of.object, Version: api.Version{T: of.t, K: r.writes[of]}})
}

func (r *reading) read(l api.Line) {
	r.event(l, api.Event{Object: r.number(objects, l.Names[1]), Version: r.version(l.Versions[0])})
}

func (r *reading) scan(l api.Line) {
	e := api.Event{Predicate: r.number(predicates, l.Names[1])}
	for at, v := range l.Versions {
		e.Scan = append(e.Scan, api.Seen{Object: r.number(objects, l.Names[2+at]), Version: r.version(v)})
	}
	r.event(l, e)
}

func (r *reading) end(l api.Line) {
	r.event(l, api.Event{})
}

func (r *reading) order(l api.Line) {
	room(len(r.Orders), api.MaxRows)
	r.Orders = append(r.Orders, api.Order{Object: r.number(objects, l.Names[0]), Ts: r.row(l.Names[1:])})
}

func (r *reading) match(l api.Line) {
	room(len(r.Matches), api.MaxRows)
	r.Matches = append(r.Matches, api.Match{
		Predicate: r.number(predicates, l.Names[0]),
		Object:    r.number(objects, l.Names[1]),
		First:     l.First,
		Ts:        r.row(l.Names[2:]),
	})
}

func (r *reading) want(l api.Line) {
	room(len(r.Wants), api.MaxRows)
	r.Wants = append(r.Wants, api.Want{Session: r.number(sessions, l.Names[0]), Bits: l.Bits})
}

// event puts e behind the other events, as one of the line's kind, and of its transaction.
func (r *reading) event(l api.Line, e api.Event) {
	room(len(r.Events), api.MaxEvents)
	e.Kind, e.T = l.Kind, r.number(transactions, l.Names[0])
	r.Events = append(r.Events, e)
}

// version tells the version that v is; K 0 is what an object has at first, and nobody's.
func (r *reading) version(v api.Told) api.Version {
	if v.K == 0 {
		return api.Version{}
	}
	return api.Version{T: r.number(transactions, v.Name), K: v.K}
}

// row tells the numbers of transactions.
func (r *reading) row(l []string) []int {
	var ts []int
	for _, text := range l {
		ts = append(ts, r.number(transactions, text))
	}
	return ts
}

// number tells the number of a name of the sort; one that is not met yet gets the next one.
func (r *reading) number(sort int, text string) int {
	of := name{sort, text}
	n, met := r.numbers[of]
	if !met {
		l := r.names(sort)
		n = len(*l)
		room(n, most[sort])
		r.numbers[of] = n
		*l = append(*l, text)
	}
	return n
}

// names tells where the history has its names of the sort.
func (r *reading) names(sort int) *[]string {
	return [sorts]*[]string{&r.Transactions, &r.Sessions, &r.Objects, &r.Predicates}[sort]
}

// room leaves the reading, if one more than n is too much.
func room(n, most int) {
	if n >= most {
		panic(api.ErrFull)
	}
}
