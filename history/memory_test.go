package history_test

import (
	"reflect"
	"slices"
	"strings"
	"testing"
	"unsafe"

	"yardarm/api"
	"yardarm/history"
)

// some are histories that may be, and such as are loose alone.
func some() []api.History {
	turned := rich()
	slices.Reverse(turned.Transactions)
	slices.Reverse(turned.Events)
	return append(bases(), turned, api.History{Transactions: []string{"t", "u"}, Sessions: []string{"s"}, Events: []api.Event{begin(1, 0, 2)}})
}

// told makes all calls that tell lists.
func told(h api.History) (api.History, api.History, [][]int) {
	anew, _ := history.Number(h)
	full, _ := history.Complete(h)
	var places [][]int
	for n := range h.Transactions {
		l, _ := history.Of(h, n)
		places = append(places, l)
	}
	return anew, full, places
}

// spoil writes over all lists of v, and the room behind their ends.
func spoil(v any) {
	parts(reflect.ValueOf(v).Elem(), func(v reflect.Value) {
		switch v.Kind() {
		case reflect.Slice:
			v.SetLen(v.Cap())
		case reflect.String:
			v.SetString("spoiled")
		case reflect.Int:
			v.SetInt(7777)
		}
	})
}

// roomy tells h in memory of its own, with things behind the ends of all lists.
func roomy(h api.History) api.History {
	h = clone(h)
	parts(reflect.ValueOf(&h).Elem(), func(v reflect.Value) {
		if v.Kind() != reflect.Slice {
			return
		}
		more := reflect.MakeSlice(v.Type(), v.Len()+3, v.Len()+3)
		reflect.Copy(more, v)
		for at := v.Len(); at < more.Len(); at++ {
			parts(more.Index(at), func(v reflect.Value) {
				if v.Kind() == reflect.Int {
					v.SetInt(int64(100 + at))
				}
			})
		}
		v.Set(more.Slice(0, v.Len()))
	})
	return h
}

// whole tells h, in memory of its own, with the room behind the ends of all lists.
func whole(h api.History) api.History {
	parts(reflect.ValueOf(&h).Elem(), func(v reflect.Value) {
		if v.Kind() == reflect.Slice {
			long := reflect.MakeSlice(v.Type(), v.Cap(), v.Cap())
			reflect.Copy(long, v.Slice(0, v.Cap()))
			v.Set(long)
		}
	})
	return h
}

// R3: what is handed in stays as it is, the room behind its ends, too, and what is answered is new memory.
func TestKeeps(t *testing.T) {
	for _, h := range some() {
		room := roomy(h)
		before := clone(whole(room))
		anew, full, places := told(room)
		spoil(&anew)
		spoil(&full)
		spoil(&places)
		history.Check(room)
		history.Same(room, room)
		for _, e := range room.Events {
			history.SameEvent(e, e)
		}
		if now := whole(room); !equal(now, before) {
			t.Errorf("what was handed in is told, or changed: %v, not %v", now, before)
		}
	}
}

// R3: no two lists of an answer share their room.
func TestApart(t *testing.T) {
	for _, h := range some() {
		anew, full, _ := told(h)
		for _, a := range []api.History{anew, full} {
			met := map[uintptr]bool{}
			parts(reflect.ValueOf(&a).Elem(), func(v reflect.Value) {
				if v.Kind() != reflect.Slice || v.Cap() == 0 {
					return
				}
				if met[v.Pointer()] {
					t.Errorf("two lists of %v are one", a)
				}
				met[v.Pointer()] = true
			})
		}
	}
}

// R3: two lists of what is handed in may share their room: what is told of one is not told of the other.
func TestShared(t *testing.T) {
	h := rich()
	ts := []int{4, 3, 2, 1, 0}
	h.Orders[0].Ts, h.Orders[1].Ts, h.Matches[0].Ts = ts, ts, ts[1:3]
	sees := []api.Seen{seen(4, ver(5, 1)), seen(3, first), seen(2, ver(3, 3))}
	h.Events[4].Scan, h.Events[5].Scan = sees, sees[1:]
	checkNumber(t, h, api.OK)
}

// R3: names that are told are no pieces of what was handed in.
func TestNewTexts(t *testing.T) {
	text := strings.Repeat("abcdefg", 9)
	begins := uintptr(unsafe.Pointer(unsafe.StringData(text)))
	h := rich()
	at := 0
	for _, l := range [][]string{h.Transactions, h.Sessions, h.Objects, h.Predicates} {
		for n := range l {
			l[n] = text[at : at+3+n%2]
			at++
		}
	}
	h.Transactions = []string{text[0:2], text[0:3], text[0:4], text[0:5], text[0:6], text[0:7]}
	anew, full, _ := told(h)
	for _, a := range []api.History{anew, full} {
		if len(a.Transactions) != 6 {
			t.Errorf("%v has another number of transactions", a)
		}
		parts(reflect.ValueOf(&a).Elem(), func(v reflect.Value) {
			if v.Kind() != reflect.String {
				return
			}
			if at := uintptr(unsafe.Pointer(unsafe.StringData(v.String()))); begins <= at && at < begins+uintptr(len(text)) {
				t.Errorf("%q is a piece of what was handed in", v)
			}
		})
	}
}

// R3, R5: the same is answered each time, whatever is done to what was answered.
func TestSameAgain(t *testing.T) {
	for _, h := range some() {
		anew, full, places := told(h)
		wantAnew, wantFull, wantPlaces := clone(anew), clone(full), slices.Clone(places)
		for at, l := range wantPlaces {
			wantPlaces[at] = slices.Clone(l)
		}
		for range 3 {
			spoil(&anew)
			spoil(&full)
			spoil(&places)
			anew, full, places = told(h)
			if !equal(anew, wantAnew) || !equal(full, wantFull) || !equal(places, wantPlaces) {
				t.Errorf("of %v another time other things are told", h)
			}
		}
	}
}
