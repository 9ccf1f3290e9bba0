package names_test

import (
	"slices"
	"strings"
	"testing"
	"unsafe"

	"yardarm/api"
	"yardarm/names"
)

// told is what calls answer.
type told struct {
	names   [][]string
	numbers [][]int
	texts   []string
}

// tell makes all calls that tell lists, or names.
func tell(l []string) told {
	t := table(l...)
	put, _, _ := names.Put(t, "new")
	same, _, _ := names.Put(t, l[0])
	all, numbers, _ := names.All(l...)
	moved, _ := names.Move(t, t)
	name, _ := names.Name(t, 0)
	return told{[][]string{put.Names, same.Names, all.Names}, [][]int{numbers, moved}, []string{name}}
}

// spoil writes over all lists, and the room behind their ends.
func (a told) spoil() {
	for _, l := range a.names {
		for i := range l[:cap(l)] {
			l[:cap(l)][i] = "spoiled"
		}
	}
	for _, l := range a.numbers {
		for i := range l[:cap(l)] {
			l[:cap(l)][i] = 7777
		}
	}
}

// same tells whether both are the same.
func (a told) same(b told) bool {
	return slices.EqualFunc(a.names, b.names, slices.Equal[[]string]) &&
		slices.EqualFunc(a.numbers, b.numbers, slices.Equal[[]int]) && slices.Equal(a.texts, b.texts)
}

// copied tells the same in lists of its own.
func (a told) copied() told {
	b := told{texts: slices.Clone(a.texts)}
	for _, l := range a.names {
		b.names = append(b.names, slices.Clone(l))
	}
	for _, l := range a.numbers {
		b.numbers = append(b.numbers, slices.Clone(l))
	}
	return b
}

// R3: what is handed in stays as it is, the room behind its end, too, and what is answered is new memory.
func TestKeepsTable(t *testing.T) {
	for _, l := range tables() {
		if len(l) == 0 {
			continue
		}
		long := append(slices.Clone(l), "behind", "behind too")
		want := slices.Clone(long)
		tell(long[:len(l)]).spoil()
		names.Fine(table(long[:len(l)]...))
		names.Find(table(long[:len(l)]...), "x")
		names.Move(table(long[:len(l)]...), table("x"))
		if !slices.Equal(long, want) {
			t.Errorf("of %s what was handed in is told, or changed: %s", brief(l), brief(long))
		}
	}
}

// R3: names that are told are no pieces of what was handed in.
func TestNewTexts(t *testing.T) {
	whole := strings.Repeat("abc", 5)
	l := []string{whole[:3], whole[3:7]}
	first := uintptr(unsafe.Pointer(unsafe.StringData(whole)))
	a := tell(l)
	for _, row := range append(a.names, a.texts) {
		for _, s := range row {
			if at := uintptr(unsafe.Pointer(unsafe.StringData(s))); first <= at && at < first+uintptr(len(whole)) {
				t.Errorf("%q is a piece of what was handed in", s)
			}
		}
	}
	put, _, _ := names.Put(api.Table{}, l[1])
	if unsafe.StringData(put.Names[0]) == unsafe.StringData(l[1]) {
		t.Errorf("%q that was put is kept", put.Names[0])
	}
}

// R3, R5: the same is answered each time, whatever is done to what was answered.
func TestSameAgain(t *testing.T) {
	for _, l := range tables() {
		if len(l) == 0 {
			continue
		}
		first := tell(l)
		want := first.copied()
		first.spoil()
		for range 3 {
			if again := tell(l); !again.same(want) {
				t.Errorf("of %s is told %v, and %v", brief(l), want, again)
			}
		}
	}
}

// R3: two tables that come of one do not share their room.
func TestPutApart(t *testing.T) {
	ab, _, _ := names.All("a", "b")
	abc, _, _ := names.Put(ab, "c")
	abd, _, _ := names.Put(ab, "d")
	abce, _, _ := names.Put(abc, "e")
	names.Put(abc, "f")
	for _, c := range []struct {
		got  api.Table
		want string
	}{{ab, "a b"}, {abc, "a b c"}, {abd, "a b d"}, {abce, "a b c e"}} {
		if s := strings.Join(c.got.Names, " "); s != c.want {
			t.Errorf("the table is %s; not %s", s, c.want)
		}
	}
}
