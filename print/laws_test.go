package print_test

import (
	"math/rand"
	"slices"
	"strings"
	"testing"

	"yardarm/api"
	"yardarm/format"
	"yardarm/history"
	"yardarm/line"
	"yardarm/print"
)

// samples tells histories that may be.
func samples() []api.History {
	all := []api.History{{}, plain(), rich()}
	for seed := range int64(300) {
		all = append(all, drawn(rand.New(rand.NewSource(seed)), 50, 1+int(seed)%12))
	}
	return all
}

// P14.4: all lines may be, and what they tell is the history, counted.
func TestLinesMayBe(t *testing.T) {
	for _, h := range samples() {
		l, _ := print.Lines(h)
		for _, x := range l {
			if err := line.Check(x); err != api.OK {
				t.Errorf("Check of %v is %d", x, err)
			}
		}
		want, _ := print.Count(h)
		if back, n, err := format.Of(l); !history.Same(back, want) || n != len(l) || err != api.OK {
			t.Errorf("the lines of %v are read as %v, %d, %d", brief(h), brief(back), n, err)
		}
	}
}

// P14.2: the text is the texts of the lines.
func TestTextOfLines(t *testing.T) {
	for _, h := range samples() {
		l, _ := print.Lines(h)
		var text strings.Builder
		for _, x := range l {
			s, _ := line.Text(x)
			text.WriteString(s)
		}
		if s, err := print.Text(h); s != text.String() || err != api.OK {
			t.Errorf("Text is %s, %d; not %s", short(s), err, short(text.String()))
		}
	}
}

// P14.4: the text is read as the history, if it is counted, and else as what Count makes of it.
func TestReadBack(t *testing.T) {
	for _, h := range samples() {
		want, err := print.Count(h)
		if err != api.OK {
			t.Errorf("Count of %v is %d", brief(h), err)
		}
		s, _ := print.Text(h)
		back, size, err := format.Read(s)
		if !history.Same(back, want) || size != len(s) || err != api.OK {
			t.Errorf("%s is read as %v, %d, %d; not %v", short(s), brief(back), size, err, brief(want))
		}
		if is := history.Same(back, h); is != print.Counted(h) {
			t.Errorf("that %s is read as its history is %v", short(s), is)
		}
	}
}

// P14.4: the text of what was read is read as the same, however the text that was read was written.
func TestTextOfRead(t *testing.T) {
	for _, h := range samples() {
		s, _ := print.Text(h)
		lines := slices.Collect(strings.Lines(s))
		slices.SortStableFunc(lines, func(a, b string) int { return rows(b) - rows(a) })
		turned := "# remark\n\n" + strings.ReplaceAll(strings.ReplaceAll(strings.Join(lines, ""), "\n", "\t# x\n \n"), " ", "  \t")
		for _, text := range []string{s, turned, strings.TrimSuffix(s, "\n")} {
			once, _, err := format.Read(text)
			if err != api.OK {
				t.Errorf("Read of %s is %d", short(text), err)
			}
			one, err := print.Text(once)
			if one != s || err != api.OK {
				t.Errorf("the text of what was read is %s, %d; not %s", short(one), err, short(s))
			}
			if twice, size, err := format.Read(one); !history.Same(twice, once) || size != len(one) || err != api.OK {
				t.Errorf("%s is read as %v, %d, %d; not %v", short(one), brief(twice), size, err, brief(once))
			}
			if !print.Counted(once) {
				t.Errorf("Counted of what was read of %s is false", short(text))
			}
		}
	}
}

// rows tells of which sort of row a line's text is: 0 of none, but of an event.
func rows(s string) int {
	return 1 + slices.Index([]string{"order", "match", "want"}, strings.Fields(s)[0])
}

// P14.4: Count of what it has made changes nothing, nor does it change what is told as lines.
func TestCountAgain(t *testing.T) {
	for _, h := range samples() {
		once, err := print.Count(h)
		if err != api.OK || history.Check(once) != api.OK || !print.Counted(once) {
			t.Errorf("Count of %v is %v, %d", brief(h), brief(once), err)
		}
		twice, err := print.Count(once)
		if err != api.OK || !history.Same(once, twice) {
			t.Errorf("Count of %v is %v, %d", brief(once), brief(twice), err)
		}
		if is := history.Same(once, h); is != print.Counted(h) {
			t.Errorf("that Count changes nothing of %v is %v", brief(h), is)
		}
		a, _ := print.Text(h)
		b, _ := print.Text(once)
		if a != b {
			t.Errorf("the text is %s, and counted %s", short(a), short(b))
		}
	}
}
