package line_test

import (
	"slices"
	"testing"
	"unsafe"

	"yardarm/api"
	"yardarm/line"
)

// spoil writes over all lists of l, and the room behind their ends.
func spoil(l api.Line) {
	for at := range l.Names[:cap(l.Names)] {
		l.Names[:cap(l.Names)][at] = "spoiled"
	}
	for at := range l.Versions[:cap(l.Versions)] {
		l.Versions[:cap(l.Versions)][at] = told("spoiled", 77)
	}
}

// R3: what is handed in stays as it is, the room behind its ends, too.
func TestKeeps(t *testing.T) {
	for _, l := range lines() {
		room := clone(l)
		room.Names = append(room.Names, "behind", "1")[:len(l.Names)]
		room.Versions = append(room.Versions, told("behind", 5), told("", 9))[:len(l.Versions)]
		before := api.Line{
			Names:    slices.Clone(room.Names[:len(l.Names)+2]),
			Versions: slices.Clone(room.Versions[:len(l.Versions)+2]),
		}
		line.Check(room)
		line.Text(room)
		line.Same(room, room)
		now := api.Line{Names: room.Names[:len(l.Names)+2], Versions: room.Versions[:len(l.Versions)+2]}
		if !same(now, before) || !same(room, l) {
			t.Errorf("%v was handed in, and is %v", short(before), short(now))
		}
		checkText(t, room)
	}
}

// piece tells whether s is a piece of the whole.
func piece(s, whole string) bool {
	begins := uintptr(unsafe.Pointer(unsafe.StringData(whole)))
	at := uintptr(unsafe.Pointer(unsafe.StringData(s)))
	return s != "" && begins <= at && at < begins+uintptr(len(whole))
}

// R3: names that are read are no pieces of the text, and a text that is told is none of a name.
func TestNewTexts(t *testing.T) {
	for _, l := range lines() {
		text := textOf(l)
		got, _, _ := line.Read(text, 0)
		all := slices.Clone(got.Names)
		for _, v := range got.Versions {
			all = append(all, v.Name)
		}
		for _, s := range all {
			if piece(s, text) {
				t.Errorf("%q is a piece of what was handed in", s)
			}
		}
	}
}

// R3, R5: the same is answered each time, whatever is done to what was answered.
func TestSameAgain(t *testing.T) {
	for _, s := range append(texts(), drawn(4, 5)...) {
		first, at, err := line.Read(s, 0)
		want := clone(first)
		for range 3 {
			spoil(first)
			again, atAgain, errAgain := line.Read(s, 0)
			if !same(again, want) || at != atAgain || err != errAgain {
				t.Errorf("Read of %s is %v, %d, %d, and %v, %d, %d", brief(s), short(want), at, err, short(again), atAgain, errAgain)
			}
			first = again
		}
	}
}
