package rules_test

import (
	"math/rand"
	"reflect"
	"slices"
	"testing"

	"yardarm/api"
	"yardarm/rules"
)

// parts tells all parts of v, and of these.
func parts(v reflect.Value, tell func(v reflect.Value)) {
	tell(v)
	switch v.Kind() {
	case reflect.Struct:
		for i := range v.NumField() {
			parts(v.Field(i), tell)
		}
	case reflect.Slice:
		for i := range v.Len() {
			parts(v.Index(i), tell)
		}
	}
}

// ints tells where all whole numbers of h stand.
func ints(h *api.History) []*int {
	var all []*int
	parts(reflect.ValueOf(h).Elem(), func(v reflect.Value) {
		if p, is := v.Addr().Interface().(*int); is {
			all = append(all, p)
		}
	})
	return all
}

// roomy tells h in memory of its own, with things behind the ends of all lists.
func roomy(h api.History) api.History {
	h = clone(h)
	parts(reflect.ValueOf(&h).Elem(), func(v reflect.Value) {
		if v.Kind() != reflect.Slice {
			return
		}
		more := reflect.MakeSlice(v.Type(), v.Len()+3, v.Len()+3)
		reflect.Copy(more, v)
		for at := v.Len(); at < more.Len(); at++ {
			parts(more.Index(at), func(v reflect.Value) {
				if v.Kind() == reflect.Int {
					v.SetInt(int64(100 + at))
				}
			})
		}
		v.Set(more.Slice(0, v.Len()))
	})
	return h
}

// whole tells h, in memory of its own, with the room behind the ends of all lists.
func whole(h api.History) api.History {
	parts(reflect.ValueOf(&h).Elem(), func(v reflect.Value) {
		if v.Kind() == reflect.Slice {
			long := reflect.MakeSlice(v.Type(), v.Cap(), v.Cap())
			reflect.Copy(long, v.Slice(0, v.Cap()))
			v.Set(long)
		}
	})
	return h
}

// answers are what all calls answer.
type answers struct {
	Wrong   api.Broken
	Is      bool
	Places  []int
	Writers [][]int
}

func answered(h api.History) answers {
	var a answers
	a.Wrong, a.Is, _ = rules.First(h)
	for rule := range 12 {
		at, is, err := rules.Place(h, rule)
		if is {
			at++
		}
		a.Places = append(a.Places, at, int(err))
	}
	for x := range h.Objects {
		l, _ := rules.Writers(h, x)
		a.Writers = append(a.Writers, l)
	}
	return a
}

// spoil writes over the lists that were answered, and the room behind their ends.
func spoil(a answers) {
	for _, l := range a.Writers {
		l = l[:cap(l)]
		for at := range l {
			l[at] = 7777
		}
	}
}

// mixed are histories that are well-formed, and such as are not.
func mixed() []api.History {
	all := append(samples()[:60], full())
	r := rand.New(rand.NewSource(15))
	for _, h := range slices.Clone(all) {
		all = append(all, bent(r, h))
	}
	return all
}

// R3: what is handed in stays as it is, the room behind its ends, too.
func TestKeeps(t *testing.T) {
	for _, h := range mixed() {
		room := roomy(h)
		before := clone(whole(room))
		a := answered(room)
		if !equal(a, answered(h)) {
			t.Errorf("of %v with room behind its ends %v is told", brief(h), a)
		}
		spoil(a)
		if !equal(whole(room), before) {
			t.Errorf("%v was handed in, and has changed", brief(h))
		}
	}
}

// R3: two lists of what is handed in may share their room.
func TestShared(t *testing.T) {
	h := full()
	ts := all(300)
	for at := range h.Orders {
		h.Orders[at].Ts = ts
	}
	for at := range h.Matches {
		h.Matches[at].Ts = ts[at%300:]
	}
	expect(t, h, api.Broken{})
	if !slices.Equal(ts, all(300)) {
		t.Error("what was handed in has changed")
	}
}

// R3, R5: the same is answered each time, whatever is done to what was answered.
func TestSameAgain(t *testing.T) {
	all := mixed()
	var wants []answers
	for _, h := range all {
		a := answered(h)
		want := a
		want.Writers = nil
		for _, l := range a.Writers {
			want.Writers = append(want.Writers, slices.Clone(l))
		}
		wants = append(wants, want)
		spoil(a)
	}
	r := rand.New(rand.NewSource(1))
	for range 300 {
		n := r.Intn(len(all))
		a := answered(all[n])
		if !equal(a, wants[n]) {
			t.Errorf("of %v another time %v is told", brief(all[n]), a)
		}
		spoil(a)
	}
}
