package names_test

import (
	"math/rand"
	"slices"
	"testing"

	"yardarm/api"
	"yardarm/names"
)

// upTo tells the numbers below n.
func upTo(n int) []int {
	var l []int
	for i := range n {
		l = append(l, i)
	}
	return l
}

// tables tells tables of all sorts, long ones among them.
func tables() [][]string {
	var all [][]string
	for _, l := range rows(4, "a", "b", "ab", "é", long24) {
		if isTable(l) {
			all = append(all, l)
		}
	}
	r := rand.New(rand.NewSource(5))
	for _, n := range []int{5, 50, 299, 300} {
		l := many(300)
		r.Shuffle(len(l), func(i, k int) { l[i], l[k] = l[k], l[i] })
		all = append(all, l[:n], words)
	}
	return all
}

// P10.6: a table's names, put one by one, are the table.
func TestPutBack(t *testing.T) {
	for _, l := range tables() {
		again, numbers, err := names.All(l...)
		checkPut(t, "All of "+brief(l), again, numbers, err, l, upTo(len(l)), 0)
		var one api.Table
		for at, s := range l {
			var n int
			one, n, err = names.Put(one, s)
			checkPut(t, "Put of the next of "+brief(l), one, []int{n}, err, l[:at+1], []int{at}, 0)
		}
		for at, s := range l {
			n, is := names.Find(one, s)
			back, err := names.Name(one, n)
			if n != at || !is || back != s || err != 0 {
				t.Errorf("%q of %s is found at %d, %v, and there stands %q, %d", s, brief(l), n, is, back, err)
			}
		}
	}
}

// P10.6: put twice a name changes nothing.
func TestPutTwice(t *testing.T) {
	for _, l := range tables() {
		for _, s := range append([]string{"x"}, l...) {
			once, n, err := names.Put(table(l...), s)
			if err == api.ErrFull && len(l) == 300 && s == "x" {
				continue
			}
			if err != api.OK {
				t.Errorf("Put of %q into %s is %d", s, brief(l), err)
			}
			twice, again, err := names.Put(once, s)
			checkPut(t, "a second Put into "+brief(l), twice, []int{again}, err, once.Names, []int{n}, 0)
		}
	}
}

// P10.6: what is moved from a to b, and from there to c, is moved from a to c.
func TestMoveOn(t *testing.T) {
	r := rand.New(rand.NewSource(6))
	for _, a := range tables() {
		if itself, err := names.Move(table(a...), table(a...)); !slices.Equal(itself, upTo(len(a))) || err != 0 {
			t.Errorf("Move of %s to itself is %v, %d", brief(a), itself, err)
		}
		b := slices.Concat(a, many(300-len(a)))
		if !isTable(b) {
			b = slices.Clone(a)
		}
		r.Shuffle(len(b), func(i, k int) { b[i], b[k] = b[k], b[i] })
		c := slices.Clone(b)
		r.Shuffle(len(c), func(i, k int) { c[i], c[k] = c[k], c[i] })
		toB, errB := names.Move(table(a...), table(b...))
		on, errC := names.Move(table(b...), table(c...))
		straight, err := names.Move(table(a...), table(c...))
		var both []int
		for _, n := range toB {
			both = append(both, on[n])
		}
		if errB != 0 || errC != 0 || err != 0 || !slices.Equal(both, straight) {
			t.Errorf("%s is moved by two to %v, by one to %v; %d, %d, %d", brief(a), both, straight, errB, errC, err)
		}
	}
}
