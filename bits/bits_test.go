package bits_test

import (
	"math/rand"
	"slices"
	"testing"

	"yardarm/api"
	"yardarm/bits"
)

// checkSet checks that b is the set of the numbers of l, in the one way in which it is kept.
func checkSet(t *testing.T, call string, b api.Bits, l []int) {
	t.Helper()
	if !slices.Equal(b.Words, wantWords(l)) {
		t.Errorf("%s has the words %x; not those of %v", call, b.Words, l)
	}
}

// P4.1: what may be, up to the greatest number.
func TestCheck(t *testing.T) {
	for _, l := range append(parts(edges), anyLists(200)...) {
		if e := bits.Check(set(l...)); e != api.OK {
			t.Errorf("Check(%v) is %d", l, e)
		}
	}
	for _, words := range [][]uint64{nil, {}, full(156), append(full(156), 1), append(full(156), 1<<16-1), append(make([]uint64, 156), 1<<15)} {
		if e := bits.Check(api.Bits{Words: words}); e != api.OK {
			t.Errorf("Check of %x is %d", words, e)
		}
	}
}

// P4.1: what may not be: a last word that is 0, a number that is too great.
func TestCheckWrong(t *testing.T) {
	for _, b := range wrong() {
		if e := bits.Check(b); e != api.ErrBits {
			t.Errorf("Check of %x is %d", b.Words, e)
		}
	}
	if api.ErrBits != 140 || api.ErrArg != 2 {
		t.Errorf("the errors are %d, %d", api.ErrBits, api.ErrArg)
	}
}

// P4.1, P4.5: which sets are the same; what both have, one alone, one at least; what is within the other one.
func TestTwo(t *testing.T) {
	lists := append(parts([]int{0, 1, 63, 64, 128, 9999}), anyLists(100)...)
	for _, a := range lists {
		for _, b := range lists {
			checkTwo(t, a, b)
		}
	}
}

// checkTwo checks what is told of two sets.
func checkTwo(t *testing.T, a, b []int) {
	t.Helper()
	x, y := set(a...), set(b...)
	meet, minus := both(a, b)
	if same := bits.Same(x, y); same != slices.Equal(a, b) {
		t.Errorf("Same(%v, %v) is %v", a, b, same)
	}
	if within := bits.Within(x, y); within != (len(minus) == 0) {
		t.Errorf("Within(%v, %v) is %v", a, b, within)
	}
	checkSet(t, "Meet", bits.Meet(x, y), meet)
	checkSet(t, "Minus", bits.Minus(x, y), minus)
	checkSet(t, "Union", bits.Union(x, y), either(a, b))
}

// P4.2: numbers in any order, and more than once; all there are.
func TestOf(t *testing.T) {
	r := rand.New(rand.NewSource(8))
	for _, l := range append(parts(edges), anyLists(200)...) {
		mixed := append(slices.Clone(l), l[:len(l)/2]...)
		r.Shuffle(len(mixed), func(i, k int) { mixed[i], mixed[k] = mixed[k], mixed[i] })
		b, e := bits.Of(mixed...)
		checkSet(t, "Of", b, l)
		if e != api.OK {
			t.Errorf("Of(%v) is %d", mixed, e)
		}
	}
	all := make([]int, api.MaxBits)
	for i := range all {
		all[i] = api.MaxBits - 1 - i
	}
	b, e := bits.Of(all...)
	if e != api.OK || bits.Count(b) != api.MaxBits || !slices.Equal(b.Words, append(full(156), 1<<16-1)) {
		t.Errorf("the set of all is %x, %d", b.Words, e)
	}
}

// P4.2: one number that may be in no set is enough, wherever it stands, and nothing is told then.
func TestOfWrong(t *testing.T) {
	for _, n := range outside {
		for _, l := range [][]int{{n}, {n, 1}, {1, n}, {9999, 0, n, 5}, {n, n}} {
			if b, e := bits.Of(l...); e != api.ErrArg || len(b.Words) != 0 {
				t.Errorf("Of(%v) is %x, %d", l, b.Words, e)
			}
		}
	}
}

// P4.2: its numbers, rising, and how many.
func TestList(t *testing.T) {
	for _, l := range append(parts(edges), anyLists(200)...) {
		if got, n := bits.List(set(l...)), bits.Count(set(l...)); !slices.Equal(got, l) || n != len(l) {
			t.Errorf("of %v List is %v, Count %d", l, got, n)
		}
	}
}

// P4.3: whether it has a number, and which one comes next, from each number on.
func TestHasNext(t *testing.T) {
	lists := append(parts([]int{0, 1, 63, 64, 65, 200}), anyLists(60)...)
	for _, l := range append(lists, []int{9999}, []int{0, 9998}) {
		b, at := set(l...), 0
		for n := range api.MaxBits {
			has := at < len(l) && l[at] == n
			if got := bits.Has(b, n); got != has {
				t.Fatalf("Has(%v, %d) is %v", l, n, got)
			}
			want := 0
			if at < len(l) {
				want = l[at]
			}
			if next, there := bits.Next(b, n); next != want || there != (at < len(l)) {
				t.Fatalf("Next(%v, %d) is %d, %v", l, n, next, there)
			}
			if has {
				at++
			}
		}
	}
}

// P4.3: no set has what lies outside; from ahead of all numbers on the first one is next, from behind them none.
func TestHasNextOutside(t *testing.T) {
	for _, l := range parts([]int{0, 63, 64, 9999}) {
		b := set(l...)
		for _, n := range outside {
			want, wantThere := 0, n < 0 && len(l) > 0
			if wantThere {
				want = l[0]
			}
			if next, there := bits.Next(b, n); next != want || there != wantThere {
				t.Errorf("Next(%v, %d) is %d, %v", l, n, next, there)
			}
			if bits.Has(b, n) {
				t.Errorf("Has(%v, %d)", l, n)
			}
		}
	}
}

// P4.4: one more number, and one less: of those that are there, and of others.
func TestWith(t *testing.T) {
	for _, l := range append(parts(edges[:9]), anyLists(100)...) {
		for _, n := range append([]int{2, 66, 191, 192, 5000}, edges...) {
			b, e := bits.With(set(l...), n)
			checkSet(t, "With", b, either(l, []int{n}))
			if e != api.OK {
				t.Errorf("With(%v, %d) is %d", l, n, e)
			}
			_, rest := both(l, []int{n})
			checkSet(t, "Without", bits.Without(set(l...), n), rest)
		}
	}
}

// P4.4: a number that may be in no set is not put in, and taken out of none.
func TestWithOutside(t *testing.T) {
	for _, l := range parts([]int{0, 63, 64, 9999}) {
		for _, n := range outside {
			if b, e := bits.With(set(l...), n); e != api.ErrArg || len(b.Words) != 0 {
				t.Errorf("With(%v, %d) is %x, %d", l, n, b.Words, e)
			}
			checkSet(t, "Without", bits.Without(set(l...), n), l)
		}
	}
}

// P4.5: of none nothing; of one itself; of many what each has.
func TestUnion(t *testing.T) {
	checkSet(t, "Union of none", bits.Union(), nil)
	r := rand.New(rand.NewSource(9))
	lists := append(parts(edges[:6]), anyLists(60)...)
	for _, l := range lists {
		checkSet(t, "Union of one", bits.Union(set(l...)), l)
		some, sets := [][]int{}, []api.Bits{}
		for range r.Intn(8) {
			one := lists[r.Intn(len(lists))]
			some, sets = append(some, one), append(sets, set(one...))
		}
		checkSet(t, "Union of many", bits.Union(sets...), either(some...))
	}
}

// What may not be counts as a set without numbers, in each place.
func TestWrong(t *testing.T) {
	some := []int{1, 64, 9999}
	b := set(some...)
	for _, w := range wrong() {
		if l, n := bits.List(w), bits.Count(w); len(l) != 0 || n != 0 {
			t.Errorf("of %x List is %v, Count %d", w.Words, l, n)
		}
		for _, n := range append(slices.Clone(edges), outside...) {
			if next, there := bits.Next(w, n); bits.Has(w, n) || next != 0 || there {
				t.Errorf("%x has %d, or Next %d", w.Words, n, next)
			}
			checkSet(t, "Without", bits.Without(w, n), nil)
		}
		for _, n := range edges {
			with, e := bits.With(w, n)
			checkSet(t, "With", with, []int{n})
			if e != api.OK {
				t.Errorf("With %d is %d", n, e)
			}
		}
		if with, e := bits.With(w, api.MaxBits); e != api.ErrArg || len(with.Words) != 0 {
			t.Errorf("With is %x, %d", with.Words, e)
		}
		if bits.Same(w, b) || bits.Same(b, w) || !bits.Same(w, w) || !bits.Same(w, api.Bits{}) || !bits.Same(api.Bits{}, w) {
			t.Errorf("%x is the same as other sets", w.Words)
		}
		if !bits.Within(w, b) || bits.Within(b, w) || !bits.Within(w, w) || !bits.Within(w, api.Bits{}) {
			t.Errorf("%x is within other sets", w.Words)
		}
		checkSet(t, "Union", bits.Union(w, b, w), some)
		checkSet(t, "Union", bits.Union(w, w), nil)
		checkSet(t, "Meet", bits.Meet(w, b), nil)
		checkSet(t, "Meet", bits.Meet(b, w), nil)
		checkSet(t, "Minus", bits.Minus(w, b), nil)
		checkSet(t, "Minus", bits.Minus(b, w), some)
	}
}

// P4.6: Of of List is the set; there is one way in which a set is kept, however it was made; Next comes to List.
func TestLaws(t *testing.T) {
	for _, l := range append(parts(edges), anyLists(100)...) {
		b := set(l...)
		again, e := bits.Of(bits.List(b)...)
		checkSet(t, "Of of List", again, l)
		if e != api.OK || bits.Check(again) != api.OK {
			t.Errorf("Of of List of %v is %d", l, e)
		}
		grown := api.Bits{}
		for i := range l {
			grown, _ = bits.With(grown, l[len(l)-1-i])
		}
		checkSet(t, "With, one by one", grown, l)
		more := bits.Union(b, set(edges...))
		for _, n := range edges {
			if !slices.Contains(l, n) {
				more = bits.Without(more, n)
			}
		}
		checkSet(t, "Without, one by one", more, l)
		var steps []int
		for n, there := bits.Next(b, 0); there; n, there = bits.Next(b, n+1) {
			steps = append(steps, n)
		}
		if !slices.Equal(steps, l) {
			t.Errorf("Next comes to %v, not to %v", steps, l)
		}
	}
}

// P4.6: Union, Meet and Minus are what they are of numbers, each by itself.
func TestByItself(t *testing.T) {
	lists := anyLists(40)
	for i, l := range lists {
		x, y := set(l...), set(lists[(i+1)%len(lists)]...)
		union, meet, minus := bits.Union(x, y), bits.Meet(x, y), bits.Minus(x, y)
		for n := -2; n < api.MaxBits+2; n++ {
			a, b := bits.Has(x, n), bits.Has(y, n)
			if bits.Has(union, n) != (a || b) || bits.Has(meet, n) != (a && b) || bits.Has(minus, n) != (a && !b) {
				t.Fatalf("of %v and %v, %d is told wrong", bits.List(x), bits.List(y), n)
			}
		}
	}
}

// answers calls everything that answers sets, by name.
func answers(a, b api.Bits) map[string]api.Bits {
	with, _ := bits.With(a, 3)
	far, _ := bits.With(a, 9999)
	return map[string]api.Bits{
		"With": with, "With, far": far, "Without": bits.Without(a, 64), "Without, there not": bits.Without(a, 70),
		"Union": bits.Union(a, b), "Union of one": bits.Union(a), "Union of itself": bits.Union(a, a),
		"Meet": bits.Meet(a, b), "Meet of itself": bits.Meet(a, a), "Minus": bits.Minus(a, b), "Minus of none": bits.Minus(a, api.Bits{}),
	}
}

// R3: what is handed in stays as it is, the room behind its end, too, and what is answered is new memory.
func TestKeepsWords(t *testing.T) {
	room := []uint64{1<<3 | 1<<5, 1, 7, 0, 9, 11}
	other := []uint64{1 << 5, 3, 1, 1, 8}
	first, second := slices.Clone(room), slices.Clone(other)
	for n := range len(room) {
		a, b := api.Bits{Words: room[:n]}, api.Bits{Words: other[:max(n-1, 0)]}
		bits.Check(a)
		bits.Same(a, b)
		bits.Within(a, b)
		bits.Has(a, 3)
		bits.Next(a, 3)
		bits.Count(a)
		bits.List(a)
		for name, got := range answers(a, b) {
			words := got.Words[:cap(got.Words)]
			for i := range words {
				words[i] = 1 << 40
			}
			if !slices.Equal(room, first) || !slices.Equal(other, second) {
				t.Fatalf("%s of %d words tells what was handed in, or changes it", name, n)
			}
		}
	}
	numbers := []int{70, 3, 3, 64, 9}
	if _, e := bits.Of(numbers[:3]...); e != api.OK || !slices.Equal(numbers, []int{70, 3, 3, 64, 9}) {
		t.Errorf("the numbers are %v now", numbers)
	}
	sets := []api.Bits{set(1, 70), set(2), set(900)}
	bits.Union(sets[:2]...)
	for i, l := range [][]int{{1, 70}, {2}, {900}} {
		checkSet(t, "a set handed in", sets[i], l)
	}
}

// What is answered is cut: nothing stands behind its end.
func TestCut(t *testing.T) {
	for name, got := range answers(set(3, 64, 70, 9000), set(9000)) {
		if cap(got.Words) != len(got.Words) {
			t.Errorf("%s tells %d words, and room for %d", name, len(got.Words), cap(got.Words))
		}
	}
}

// R5: the same is answered each time.
func TestSameAgain(t *testing.T) {
	for _, l := range anyLists(20) {
		a, b := set(l...), set(1, 64, 200)
		first := answers(a, b)
		for name, got := range answers(a, b) {
			if !slices.Equal(got.Words, first[name].Words) {
				t.Errorf("%s of %v is told in two ways", name, l)
			}
		}
	}
}
