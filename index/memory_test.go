package index_test

import (
	"math/rand"
	"reflect"
	"slices"
	"testing"

	"yardarm/api"
	"yardarm/index"
)

// copied tells v in memory of its own, with nil in the place of each empty list, and so much room behind the others' ends.
func copied(v reflect.Value, room int) reflect.Value {
	b := reflect.New(v.Type()).Elem()
	switch v.Kind() {
	case reflect.Struct:
		for i := range v.NumField() {
			b.Field(i).Set(copied(v.Field(i), room))
		}
	case reflect.Slice:
		if v.Len() == 0 {
			return b
		}
		b.Set(reflect.MakeSlice(v.Type(), v.Len()+room, v.Len()+room))
		for i := range v.Len() {
			b.Index(i).Set(copied(v.Index(i), room))
		}
		b.SetLen(v.Len())
	default:
		b.Set(v)
	}
	return b
}

// roomy tells h in memory of its own, with room behind the ends of its lists, in which the lists' own rows stand again.
func roomy(h api.History) api.History {
	h = copied(reflect.ValueOf(h), 2).Interface().(api.History)
	again(&h.Events)
	again(&h.Orders)
	again(&h.Matches)
	for at := range h.Orders {
		again(&h.Orders[at].Ts)
	}
	for at := range h.Events {
		again(&h.Events[at].Scan)
	}
	return h
}

// again writes the first row of the list into the room behind its end.
func again[Row any](l *[]Row) {
	if room := (*l)[:cap(*l)]; len(*l) > 0 {
		for at := len(*l); at < cap(*l); at++ {
			room[at] = room[0]
		}
	}
}

// whole tells h in memory of its own, its lists with the room behind their ends.
func whole(h api.History) api.History {
	h.Events, h.Orders, h.Matches = h.Events[:cap(h.Events)], h.Orders[:cap(h.Orders)], h.Matches[:cap(h.Matches)]
	h.Transactions, h.Sessions, h.Objects = h.Transactions[:cap(h.Transactions)], h.Sessions[:cap(h.Sessions)], h.Objects[:cap(h.Objects)]
	h.Events, h.Orders, h.Matches = slices.Clone(h.Events), slices.Clone(h.Orders), slices.Clone(h.Matches)
	for at, e := range h.Events {
		h.Events[at].Scan = e.Scan[:cap(e.Scan)]
	}
	for at, o := range h.Orders {
		h.Orders[at].Ts = o.Ts[:cap(o.Ts)]
	}
	for at, m := range h.Matches {
		h.Matches[at].Ts = m.Ts[:cap(m.Ts)]
	}
	return copied(reflect.ValueOf(h), 0).Interface().(api.History)
}

// answers are all lists that all calls answer, and all else.
type answers struct {
	Lists  [][]int
	Sights [][]api.Seen
	Rest   []int
}

func answered(h api.History) answers {
	var a answers
	l, _ := index.Committed(h)
	a.Lists = append(a.Lists, l)
	for s := range h.Sessions {
		l, _ := index.Line(h, s)
		a.Lists = append(a.Lists, l)
	}
	for x := range h.Objects {
		l, _ := index.Installed(h, x)
		a.Lists = append(a.Lists, l)
		n, _ := index.Next(h, x, 0)
		v, at, _ := index.Final(h, n, x)
		rank, _ := index.Rank(h, x, v)
		a.Rest = append(a.Rest, n, v.T, v.K, at, rank)
	}
	for t := range h.Transactions {
		s, level, err := index.Begun(h, t)
		a.Rest = append(a.Rest, s, level, int(err))
	}
	for at := range h.Events {
		l, _ := index.Sights(h, at)
		a.Sights = append(a.Sights, l)
	}
	return a
}

// same tells whether both are the same; nil and empty lists are one.
func same(a, b any) bool {
	return reflect.DeepEqual(copied(reflect.ValueOf(a), 0).Interface(), copied(reflect.ValueOf(b), 0).Interface())
}

// spoil writes over the lists that were answered, and the room behind their ends.
func spoil(a answers) {
	for _, l := range a.Lists {
		for at := range l[:cap(l)] {
			l[:cap(l)][at] = 7777
		}
	}
	for _, l := range a.Sights {
		for at := range l[:cap(l)] {
			l[:cap(l)][at] = api.Seen{Object: 7777}
		}
	}
}

// R3: what is handed in stays as it is, the room behind its ends, too, whatever is done to what was answered.
func TestKeeps(t *testing.T) {
	for _, h := range samples(t) {
		room := roomy(h)
		before := whole(room)
		a := answered(room)
		if !same(a, answered(h)) {
			t.Errorf("of %v with room behind its ends %v is told", brief(h), a)
		}
		spoil(a)
		if !same(whole(room), before) {
			t.Errorf("%v was handed in, and has changed", brief(h))
		}
	}
}

// R3, R5: the same is answered each time, whatever is done to what was answered.
func TestSameAgain(t *testing.T) {
	all := samples(t)[:40]
	var wants []answers
	for _, h := range all {
		a := answered(h)
		wants = append(wants, copied(reflect.ValueOf(a), 0).Interface().(answers))
		spoil(a)
	}
	r := rand.New(rand.NewSource(16))
	for range 200 {
		n := r.Intn(len(all))
		a := answered(all[n])
		if !same(a, wants[n]) {
			t.Errorf("of %v another time %v is told", brief(all[n]), a)
		}
		spoil(a)
	}
}
