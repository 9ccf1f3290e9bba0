package format_test

import (
	"reflect"
	"slices"
	"strings"
	"testing"
	"unsafe"

	"yardarm/api"
	"yardarm/format"
)

// parts hands over v, and all that it has, from the inside on.
func parts(v reflect.Value, do func(v reflect.Value)) {
	switch v.Kind() {
	case reflect.Slice:
		for at := range v.Len() {
			parts(v.Index(at), do)
		}
	case reflect.Struct:
		for at := range v.NumField() {
			parts(v.Field(at), do)
		}
	}
	do(v)
}

// spoil writes over all that the pointed to has, and over the room behind its lists.
func spoil(pointers ...any) {
	for _, p := range pointers {
		parts(reflect.ValueOf(p).Elem(), func(v reflect.Value) {
			switch v.Kind() {
			case reflect.Slice:
				room := v.Slice(0, v.Cap())
				for at := range room.Len() {
					parts(room.Index(at), func(v reflect.Value) {
						switch v.Kind() {
						case reflect.String:
							v.SetString("spoiled")
						case reflect.Int:
							v.SetInt(7777)
						}
					})
				}
			}
		})
	}
}

// samples tells rows of lines that may be.
func samples() [][]api.Line {
	var all [][]api.Line
	for seed := range int64(60) {
		all = append(all, newDrawer(seed, 4).lines(25))
	}
	return all
}

// roomy tells l in memory of its own, with things behind the ends of all lists.
func roomy(l []api.Line) []api.Line {
	l = append(clone(l), commit("behind"), api.Line{Kind: 99})[:len(l)]
	for at := range l {
		l[at].Names = append(l[at].Names, "behind", "1")[:len(l[at].Names)]
		l[at].Versions = append(l[at].Versions, told("behind", 5), told("", 9))[:len(l[at].Versions)]
	}
	return l
}

// whole tells l in memory of its own, with two of each behind the ends of all lists.
func whole(l []api.Line) []api.Line {
	n, behind := len(l), l
	l = clone(l[:n+2])
	for at := range n {
		l[at].Names = slices.Clone(behind[at].Names[:len(behind[at].Names)+2])
		l[at].Versions = slices.Clone(behind[at].Versions[:len(behind[at].Versions)+2])
	}
	return l
}

// R3: what is handed in stays as it is, the room behind its ends, too, and is not kept.
func TestKeeps(t *testing.T) {
	for _, l := range samples() {
		room := roomy(l)
		before := whole(room)
		h, _, _ := format.Of(room)
		want, _, _ := modelOf(l)
		if now := whole(room); !equal(now, before) {
			t.Errorf("%v was handed in, and is %v", before, now)
		}
		spoil(&room)
		if !equal(h, want) {
			t.Errorf("what was handed in is kept in %v", h)
		}
		room = roomy(l)
		h, _, _ = format.Of(room)
		spoil(&h)
		if now := whole(room); !equal(now, before) {
			t.Errorf("what was handed in is told: %v is %v", before, now)
		}
	}
}

// R3: two lists of what is handed in may be one.
func TestShared(t *testing.T) {
	names := []string{"a", "b", "c", "d"}
	versions := []api.Told{told("b", 1), none, told("d", 2)}
	l := []api.Line{
		of(api.LnOrder, names...), scan(names, versions[:2]...), of(api.LnMatch, names[1:]...), of(api.EvWrite, names[:2]...), of(api.LnOrder, names[:2]...),
		scan(names[1:], versions[1]), {Kind: api.EvRead, Names: names[2:], Versions: versions[2:]}, of(api.EvCommit, names[3:]...),
	}
	before := clone(l)
	checkOf(t, l)
	if !equal(l, before) {
		t.Errorf("%v was handed in, and is %v", before, l)
	}
}

// R3: no two lists of an answer share their room.
func TestApart(t *testing.T) {
	for _, l := range samples() {
		h, _, _ := format.Of(l)
		lines, begins, _, _ := format.Lines(text(l))
		read, _, _ := format.Read(text(l))
		for _, answer := range []any{&h, &struct {
			L []api.Line
			B []int
		}{lines, begins}, &read} {
			met := map[uintptr]bool{}
			parts(reflect.ValueOf(answer).Elem(), func(v reflect.Value) {
				if v.Kind() != reflect.Slice || v.Cap() == 0 {
					return
				}
				if met[v.Pointer()] {
					t.Errorf("two lists of %v are one", answer)
				}
				met[v.Pointer()] = true
			})
		}
	}
}

// R3: names that are told are no pieces of what was handed in.
func TestNewTexts(t *testing.T) {
	for _, l := range samples() {
		s := text(l)
		begins := uintptr(unsafe.Pointer(unsafe.StringData(s)))
		lines, _, _, _ := format.Lines(s)
		h, _, _ := format.Read(s)
		piece := format1(s)
		of, _, _ := format.Of(piece)
		for _, answer := range []any{&lines, &h, &of} {
			parts(reflect.ValueOf(answer).Elem(), func(v reflect.Value) {
				if v.Kind() != reflect.String || v.Len() == 0 {
					return
				}
				if at := uintptr(unsafe.Pointer(unsafe.StringData(v.String()))); begins <= at && at < begins+uintptr(len(s)) {
					t.Errorf("%q is a piece of what was handed in", v)
				}
			})
		}
	}
}

// format1 tells the lines of s, their names being pieces of it.
func format1(s string) []api.Line {
	lines, begins, _, _ := format.Lines(s)
	for at := range lines {
		end := len(s)
		if at+1 < len(begins) {
			end = begins[at+1]
		}
		one := s[begins[at]:end]
		for n, name := range lines[at].Names {
			if place := strings.Index(one, " "+name); place >= 0 {
				lines[at].Names[n] = one[place+1 : place+1+len(name)]
			}
		}
		for n, v := range lines[at].Versions {
			if place := strings.Index(one, " "+v.Name+"."); place >= 0 {
				lines[at].Versions[n].Name = one[place+1 : place+1+len(v.Name)]
			}
		}
	}
	return lines
}

// R3, R5: the same is answered each time, whatever is done to what was answered.
func TestSameAgain(t *testing.T) {
	for _, l := range samples() {
		s := text(l)
		wantLines, wantBegins, size, _ := modelLines(s)
		want, _, _ := modelOf(l)
		for range 3 {
			lines, begins, at, err := format.Lines(s)
			h, n, no := format.Of(l)
			read, end, wrong := format.Read(s)
			if !equal(lines, wantLines) || !equal(begins, wantBegins) || at != size || err != api.OK {
				t.Errorf("another time Lines of %s is %v, %v, %d, %d", short(s), lines, begins, at, err)
			}
			if !equal(h, want) || n != len(l) || no != api.OK || !equal(read, want) || end != size || wrong != api.OK {
				t.Errorf("another time the history of %s is %v, %d, %d, or %v, %d, %d", short(s), h, n, no, read, end, wrong)
			}
			spoil(&lines, &begins, &h, &read)
		}
	}
}
