package print_test

import (
	"math/rand"
	"reflect"
	"slices"
	"strings"
	"testing"
	"unsafe"

	"yardarm/api"
	"yardarm/print"
)

// parts tells all parts of v, and of these.
func parts(v reflect.Value, tell func(v reflect.Value)) {
	tell(v)
	switch v.Kind() {
	case reflect.Struct:
		for i := range v.NumField() {
			parts(v.Field(i), tell)
		}
	case reflect.Slice:
		for i := range v.Len() {
			parts(v.Index(i), tell)
		}
	}
}

// ints tells where all whole numbers of h stand.
func ints(h *api.History) []*int {
	var all []*int
	parts(reflect.ValueOf(h).Elem(), func(v reflect.Value) {
		if p, is := v.Addr().Interface().(*int); is {
			all = append(all, p)
		}
	})
	return all
}

// spoil writes over all lists of v, and the room behind their ends.
func spoil(v any) {
	parts(reflect.ValueOf(v).Elem(), func(v reflect.Value) {
		switch v.Kind() {
		case reflect.Slice:
			v.SetLen(v.Cap())
		case reflect.String:
			v.SetString("spoiled")
		case reflect.Int:
			v.SetInt(7777)
		case reflect.Bool:
			v.SetBool(!v.Bool())
		}
	})
}

// roomy tells h in memory of its own, with things behind the ends of all lists.
func roomy(h api.History) api.History {
	h = clone(h)
	parts(reflect.ValueOf(&h).Elem(), func(v reflect.Value) {
		if v.Kind() != reflect.Slice {
			return
		}
		more := reflect.MakeSlice(v.Type(), v.Len()+3, v.Len()+3)
		reflect.Copy(more, v)
		for at := v.Len(); at < more.Len(); at++ {
			parts(more.Index(at), func(v reflect.Value) {
				if v.Kind() == reflect.Int {
					v.SetInt(int64(100 + at))
				}
			})
		}
		v.Set(more.Slice(0, v.Len()))
	})
	return h
}

// whole tells h, in memory of its own, with the room behind the ends of all lists.
func whole(h api.History) api.History {
	parts(reflect.ValueOf(&h).Elem(), func(v reflect.Value) {
		if v.Kind() == reflect.Slice {
			long := reflect.MakeSlice(v.Type(), v.Cap(), v.Cap())
			reflect.Copy(long, v.Slice(0, v.Cap()))
			v.Set(long)
		}
	})
	return h
}

// answers are what all calls that tell lists answer.
type answers struct {
	Lines   []api.Line
	Text    string
	Counted api.History
}

func answered(h api.History) answers {
	var a answers
	a.Lines, _ = print.Lines(h)
	a.Text, _ = print.Text(h)
	a.Counted, _ = print.Count(h)
	print.Counted(h)
	return a
}

// some are some of the samples.
func some() []api.History {
	return samples()[:80]
}

// R3: what is handed in stays as it is, the room behind its ends, too, and what is answered is new memory.
func TestKeeps(t *testing.T) {
	for _, h := range some() {
		room := roomy(h)
		before := clone(whole(room))
		a := answered(room)
		spoil(&a)
		if now := whole(room); !equal(now, before) {
			t.Errorf("what was handed in is told, or changed: %v, not %v", now, before)
		}
		a = answered(room)
		want := answered(h)
		spoil(&room)
		if !equal(a, want) {
			t.Errorf("what was handed in is kept in %v", a)
		}
	}
}

// R3: no two lists of an answer share their room.
func TestApart(t *testing.T) {
	for _, h := range some() {
		a := answered(h)
		met := map[uintptr]bool{}
		parts(reflect.ValueOf(&a).Elem(), func(v reflect.Value) {
			if v.Kind() != reflect.Slice || v.Cap() == 0 {
				return
			}
			if met[v.Pointer()] {
				t.Errorf("two lists of %v are one", a)
			}
			met[v.Pointer()] = true
		})
	}
}

// R3: two lists of what is handed in may share their room.
func TestShared(t *testing.T) {
	h := rich()
	ts := []int{4, 3, 2, 1, 0}
	h.Orders = append(h.Orders, api.Order{Ts: ts}, api.Order{Ts: ts[:4]}, api.Order{Ts: ts[1:]})
	h.Matches = append(h.Matches, api.Match{Ts: ts}, api.Match{Ts: ts[2:]})
	sees := []api.Seen{seen(0, ver(1, 1)), seen(1, first), seen(2, ver(3, 3))}
	h.Events = append(h.Events, scan(0, 0, sees...), scan(1, 1, sees[:2]...), scan(1, 1, sees[1:]...))
	names := []string{"s", "t", "u", "v", "w", "a", "b"}
	h.Transactions, h.Sessions = names[1:], names[:3]
	before := clone(h)
	check(t, h)
	if !equal(h, before) {
		t.Errorf("%v was handed in, and is %v", before, h)
	}
}

// R3: texts that are told are no pieces of what was handed in, or of one another.
func TestNewTexts(t *testing.T) {
	text := strings.Repeat("abcdefg", 9)
	begins := uintptr(unsafe.Pointer(unsafe.StringData(text)))
	h := rich()
	at := 0
	for _, l := range [][]string{h.Transactions, h.Sessions, h.Objects, h.Predicates} {
		for n := range l {
			l[n] = text[at : at+3+n%2]
			at++
		}
	}
	h.Transactions = []string{text[0:2], text[0:3], text[0:4], text[0:5], text[0:6], text[0:7]}
	a := answered(h)
	if len(a.Lines) != 24 || len(a.Counted.Events) != 14 || a.Text == "" {
		t.Errorf("of %v it is told %v", h, a)
	}
	met := map[uintptr]bool{}
	parts(reflect.ValueOf(&a).Elem(), func(v reflect.Value) {
		if v.Kind() != reflect.String || v.Len() == 0 {
			return
		}
		at := uintptr(unsafe.Pointer(unsafe.StringData(v.String())))
		if begins <= at && at < begins+uintptr(len(text)) {
			t.Errorf("%q is a piece of what was handed in", v)
		}
		if met[at] {
			t.Errorf("%q stands twice in what is told", v)
		}
		met[at] = true
	})
}

// R3, R5: the same is answered each time, whatever is done to what was answered.
func TestSameAgain(t *testing.T) {
	all := some()
	r := rand.New(rand.NewSource(1))
	var wants []answers
	for _, h := range all {
		a := answered(h)
		wants = append(wants, answers{slices.Clone(a.Lines), a.Text, clone(a.Counted)})
		for at, l := range a.Lines {
			wants[len(wants)-1].Lines[at].Names = slices.Clone(l.Names)
			wants[len(wants)-1].Lines[at].Versions = slices.Clone(l.Versions)
		}
		spoil(&a)
	}
	for range 300 {
		n := r.Intn(len(all))
		a := answered(all[n])
		if !equal(a, wants[n]) {
			t.Errorf("of %v another time %v is told", brief(all[n]), a)
		}
		spoil(&a)
	}
}
