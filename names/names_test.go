package names_test

import (
	"math/rand"
	"slices"
	"strconv"
	"strings"
	"testing"

	"yardarm/api"
	"yardarm/lex"
	"yardarm/names"
)

// P10.1 to P10.5: the chapter's examples.
func TestExamples(t *testing.T) {
	ba, numbers, err := names.All("b", "a", "b")
	checkPut(t, "All", ba, numbers, err, []string{"b", "a"}, []int{0, 1, 0}, 0)
	bac, n, err := names.Put(ba, "c")
	checkPut(t, "Put", bac, []int{n}, err, []string{"b", "a", "c"}, []int{2}, 0)
	if n, is := names.Find(ba, "a"); n != 1 || !is {
		t.Errorf("Find is %d, %v", n, is)
	}
	if s, err := names.Name(ba, 0); s != "b" || err != 0 {
		t.Errorf("Name is %q, %d", s, err)
	}
	if s, err := names.Name(ba, 2); s != "" || err != 4 {
		t.Errorf("Name of none is %q, %d", s, err)
	}
	if l, err := names.Move(ba, table("a", "c", "b")); !slices.Equal(l, []int{2, 0}) || err != 0 {
		t.Errorf("Move is %v, %d", l, err)
	}
	if l, err := names.Move(ba, table("a")); len(l) != 0 || err != 4 {
		t.Errorf("Move to less is %v, %d", l, err)
	}
	if err := names.Check("1a"); err != 200 {
		t.Errorf("Check is %d", err)
	}
	if err := names.Fine(table("a", "a")); err != 201 {
		t.Errorf("Fine is %d", err)
	}
}

// The chapter's errors and limit.
func TestConstants(t *testing.T) {
	if api.ErrNone != 4 || api.ErrFull != 6 || api.ErrName != 200 || api.ErrTable != 201 || api.MaxNames != 300 || api.MaxName != 24 {
		t.Errorf("the errors are %d, %d, %d, %d, the limits %d, %d", api.ErrNone, api.ErrFull, api.ErrName, api.ErrTable, api.MaxNames, api.MaxName)
	}
}

// checkName checks whether s is a name.
func checkName(t *testing.T, s string) {
	t.Helper()
	want := api.ErrName
	if isName(s) {
		want = api.OK
	}
	if err := names.Check(s); err != want || lex.Word(s) != (want == api.OK) {
		t.Errorf("Check(%q) is %d", s, err)
	}
}

// P10.1: what is a name, and what is none.
func TestCheck(t *testing.T) {
	for _, s := range words {
		if err := names.Check(s); err != api.OK {
			t.Errorf("Check(%q) is %d", s, err)
		}
	}
	for _, s := range noWords {
		if err := names.Check(s); err != api.ErrName {
			t.Errorf("Check(%q) is %d", s, err)
		}
	}
	for _, row := range rows(4, "a", "Z", "_", "é", "0", "9", ".", "-", " ", "\n", "#", "$", "\xff", "\uFFFD") {
		checkName(t, strings.Join(row, ""))
	}
	for n := range 30 {
		for _, end := range []string{"", "1", "é", "日", "😀", "\xff"} {
			checkName(t, strings.Repeat("a", n)+end)
		}
	}
}

// checkFine checks whether the names may be a table.
func checkFine(t *testing.T, l []string) {
	t.Helper()
	want := api.ErrTable
	if isTable(l) {
		want = api.OK
	}
	if err := names.Fine(table(l...)); err != want {
		t.Errorf("Fine of %s is %d", brief(l), err)
	}
}

// P10.1: which short rows are tables: of names alone, no two the same.
func TestFine(t *testing.T) {
	for _, l := range rows(4, "a", "b", "ab", "é", "1a", "") {
		checkFine(t, l)
	}
	for _, s := range append(slices.Clone(noWords), words...) {
		checkFine(t, []string{s})
		checkFine(t, []string{"x", s})
		checkFine(t, []string{s, "x"})
		checkFine(t, []string{s, "x", s})
	}
	checkFine(t, []string{})
}

// P10.1: tables have 300 names at most.
func TestFineLong(t *testing.T) {
	for _, n := range []int{299, 300, 301, 302, 600, 1 << 16} {
		want := api.OK
		if n > 300 {
			want = api.ErrTable
		}
		if err := names.Fine(table(many(n)...)); err != want {
			t.Errorf("Fine of %d names is %d", n, err)
		}
	}
	checkFine(t, slices.Repeat([]string{"a"}, 1<<16))
}

// P10.1: one that is no name, or is one of the others, is enough, wherever it stands.
func TestFineOne(t *testing.T) {
	full := many(300)
	for at := range full {
		checkFine(t, with(full, at, "1"))
		checkFine(t, with(full, at, ""))
		for _, other := range []int{0, 1, at / 2, (at + 299) % 300, at, (at + 1) % 300, (at + 7) % 300, 298, 299} {
			if err := names.Fine(table(with(full, at, full[other])...)); (err == api.OK) != (at == other) {
				t.Errorf("Fine with the name %d at %d is %d", other, at, err)
			}
		}
	}
}

// checkFind checks what is found of s, and by each number up to one behind the last one.
func checkFind(t *testing.T, l []string, s string) {
	t.Helper()
	want := slices.Index(l, s)
	is := isTable(l) && want >= 0
	if !is {
		want = 0
	}
	if n, there := names.Find(table(l...), s); n != want || there != is {
		t.Errorf("Find of %q in %s is %d, %v", s, brief(l), n, there)
	}
}

// checkNumber checks the name whose number is n.
func checkNumber(t *testing.T, l []string, n int) {
	t.Helper()
	want, no := "", api.ErrNone
	switch {
	case !isTable(l):
		no = api.ErrTable
	case 0 <= n && n < len(l):
		want, no = l[n], api.OK
	}
	if s, err := names.Name(table(l...), n); s != want || err != no {
		t.Errorf("Name of %d in %s is %q, %d", n, brief(l), s, err)
	}
}

// P10.2: of all short rows, tables or not.
func TestFindName(t *testing.T) {
	few := []string{"a", "b", "ab", "é", "1a", ""}
	for _, l := range rows(4, few...) {
		for _, s := range few {
			checkFind(t, l, s)
		}
		for n := -2; n <= 5; n++ {
			checkNumber(t, l, n)
		}
		for _, n := range outside {
			checkNumber(t, l, n)
		}
	}
}

// P10.2: of tables that are full, and of those that would be too full.
func TestFindNameLong(t *testing.T) {
	l := many(302)
	for _, n := range []int{299, 300, 301} {
		for at := range l {
			checkFind(t, l[:n], l[at])
			checkNumber(t, l[:n], at)
		}
		for _, s := range []string{"", "n", "n00", "N1", "1", "n1 ", "\xff"} {
			checkFind(t, l[:n], s)
		}
		for _, number := range outside {
			checkNumber(t, l[:n], number)
		}
	}
	// What is looked for stands ahead of what makes that it may not be.
	checkFind(t, with(l[:300], 299, "1"), "n0")
	checkNumber(t, with(l[:300], 299, "n1"), 0)
}

// checkOne checks what is told of s that is put into l.
func checkOne(t *testing.T, l []string, s string) {
	t.Helper()
	want, numbers, no := putInto(l, []string{s})
	if !isTable(l) {
		want, numbers, no = nil, nil, api.ErrTable
	}
	got, n, err := names.Put(table(l...), s)
	if no != api.OK {
		numbers = []int{0}
	}
	checkPut(t, "Put of "+strconv.Quote(s)+" into "+brief(l), got, []int{n}, err, want, numbers, no)
}

// P10.3: into all short rows, tables or not; what may not be goes ahead of what is no name.
func TestPut(t *testing.T) {
	few := []string{"a", "b", "ab", "é", "1a", ""}
	for _, l := range rows(4, few...) {
		for _, s := range few {
			checkOne(t, l, s)
		}
	}
	for _, s := range append(slices.Clone(noWords), words...) {
		checkOne(t, nil, s)
		checkOne(t, []string{"x"}, s)
		checkOne(t, []string{"x", "x"}, s)
	}
}

// P10.3: what is full has room for no other name; what is no name goes ahead of that, and what it has is found.
func TestPutFull(t *testing.T) {
	l := many(302)
	for _, n := range []int{298, 299, 300, 301} {
		for _, s := range append([]string{"", "1", "n", "x", "n1 ", "\xff"}, l...) {
			checkOne(t, l[:n], s)
		}
	}
	full, n, err := names.Put(table(l[:299]...), "n299")
	if !slices.Equal(full.Names, l[:300]) || n != 299 || err != 0 {
		t.Errorf("Put of the last one is %s, %d, %d", brief(full.Names), n, err)
	}
	for s, want := range map[string]api.Errno{"n299": 0, "n300": 6, "n 300": 200} {
		if got, _, err := names.Put(full, s); err != want || (len(got.Names) != 0) != (want == 0) {
			t.Errorf("Put of %q into what is full is %s, %d", s, brief(got.Names), err)
		}
	}
}

// checkAll checks what is told of the names that are put one by one.
func checkAll(t *testing.T, l []string) {
	t.Helper()
	want, wantNumbers, no := putInto(nil, l)
	got, numbers, err := names.All(l...)
	checkPut(t, "All of "+brief(l), got, numbers, err, want, wantNumbers, no)
}

// P10.4: all short rows.
func TestAll(t *testing.T) {
	for _, l := range rows(5, "a", "b", "ab", "é", "1a") {
		checkAll(t, l)
	}
	for _, s := range append(slices.Clone(noWords), words...) {
		checkAll(t, []string{s})
		checkAll(t, []string{"x", s})
		checkAll(t, []string{s, "x", s})
	}
	checkAll(t, words)
	checkAll(t, []string{})
}

// P10.4: the first error is told: of what is no name, or of one too many.
func TestAllFirst(t *testing.T) {
	l := many(302)
	for n := 297; n <= 302; n++ {
		checkAll(t, l[:n])
		checkAll(t, slices.Concat(l[:n], l[:n]))
		for at := range n + 1 {
			checkAll(t, slices.Insert(slices.Clone(l[:n]), at, "1"))
			checkAll(t, slices.Insert(slices.Clone(l[:n]), at, l[at/2]))
		}
	}
	if got, numbers, err := names.All(append(l, "1")...); len(got.Names) != 0 || len(numbers) != 0 || err != 6 {
		t.Errorf("one too many, then no name, is %s, %v, %d", brief(got.Names), numbers, err)
	}
	if got, numbers, err := names.All(append(l[:300], "1", "x")...); len(got.Names) != 0 || len(numbers) != 0 || err != 200 {
		t.Errorf("no name, then one too many, is %s, %v, %d", brief(got.Names), numbers, err)
	}
}

// P10.4: names may be put more often than there are places.
func TestAllLong(t *testing.T) {
	r := rand.New(rand.NewSource(3))
	l := many(300)
	for range 20 {
		var row []string
		for range 2000 {
			row = append(row, l[r.Intn(len(l))])
		}
		checkAll(t, row)
	}
	got, numbers, err := names.All(slices.Repeat(l, 1<<12)...)
	if !slices.Equal(got.Names, l) || len(numbers) != 300<<12 || err != 0 {
		t.Fatalf("All of many is %s, %d, %d", brief(got.Names), len(numbers), err)
	}
	for at, n := range numbers {
		if n != at%300 {
			t.Fatalf("of many the one at %d is numbered %d", at, n)
		}
	}
}

// checkMove checks what is told of a that is moved to b.
func checkMove(t *testing.T, a, b []string) {
	t.Helper()
	want, no := moved(a, b)
	if l, err := names.Move(table(a...), table(b...)); !slices.Equal(l, want) || err != no {
		t.Errorf("Move of %s to %s is %v, %d; not %v, %d", brief(a), brief(b), l, err, want, no)
	}
}

// P10.5: all short rows, tables or not, to each other.
func TestMove(t *testing.T) {
	all := rows(3, "a", "b", "ab", "é", "1a", "")
	for _, a := range all {
		for _, b := range all {
			checkMove(t, a, b)
		}
	}
}

// P10.5: long tables; one name that is not there is enough, wherever it stands, and what may not be goes ahead of it.
func TestMoveLong(t *testing.T) {
	r := rand.New(rand.NewSource(4))
	l := many(301)
	full := l[:300]
	for at := range full {
		b := slices.Clone(full)
		r.Shuffle(len(b), func(i, k int) { b[i], b[k] = b[k], b[i] })
		checkMove(t, full, b)
		checkMove(t, full[:at], b)
		checkMove(t, b[at:], full)
		checkMove(t, full, b[:at])
		checkMove(t, with(full, at, "x"), b)
		checkMove(t, b, with(full, at, "x"))
		checkMove(t, with(full, at, "x"), with(b, at, "1"))
		checkMove(t, with(full, at, "1"), b[at:])
	}
	checkMove(t, l, full)
	checkMove(t, full, l)
	checkMove(t, nil, l)
	checkMove(t, l, nil)
}
