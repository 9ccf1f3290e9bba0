package line_test

import (
	"math/rand"
	"slices"
	"strconv"
	"strings"
	"testing"
	"unicode/utf8"

	"yardarm/api"
	"yardarm/line"
)

// P12.4: Read of Text is the line, whatever is ahead and behind; the text that is read is written so.
func TestReadBack(t *testing.T) {
	for _, l := range lines() {
		s, err := line.Text(l)
		if err != api.OK {
			t.Errorf("Text of %v is %d", short(l), err)
		}
		for _, ahead := range []string{"", "\n", "commit T\n", "$", "\xff"} {
			for _, behind := range []string{"", "x", "\n", "commit T\n", "\xff"} {
				got, at, err := line.Read(ahead+s+behind, len(ahead))
				if !same(got, l) || at != len(ahead)+len(s) || err != api.OK {
					t.Errorf("%s is read as %v, %d, %d", brief(s), short(got), at, err)
				}
			}
		}
		if got, at, err := line.Read(strings.TrimSuffix(s, "\n"), 0); !same(got, l) || at != len(s)-1 || err != api.OK {
			t.Errorf("%s without its line feed is read as %v, %d, %d", brief(s), short(got), at, err)
		}
	}
}

// drawn tells texts that are changed at random.
func drawn(seed int64, times int) []string {
	r := rand.New(rand.NewSource(seed))
	var all []string
	for _, s := range texts() {
		if len(s) > 2000 {
			continue
		}
		for range times {
			one := s
			for range 1 + r.Intn(3) {
				one = changed(r, one)
			}
			all = append(all, one)
		}
	}
	for s := range wrong {
		all = append(all, s)
	}
	slices.Sort(all)
	return all
}

// P12.4: what is read may be, and its text is read as the same.
func TestReadMayBe(t *testing.T) {
	for _, s := range append(drawn(1, 200), texts()...) {
		l, _, err := line.Read(s, 0)
		if err != api.OK {
			continue
		}
		if no := line.Check(l); no != api.OK {
			t.Errorf("%s is read as %v, of which Check tells %d", brief(s), short(l), no)
		}
		text, _ := line.Text(l)
		if again, at, err := line.Read(text, 0); !line.Same(again, l) || at != len(text) || err != api.OK {
			t.Errorf("%v is told as %s, which is read as %v, %d, %d", short(l), brief(text), short(again), at, err)
		}
	}
}

// P12.4: where a byte below 128 may not stand, it may not, whatever is behind it.
func TestWhateverBehind(t *testing.T) {
	for _, s := range drawn(2, 100) {
		_, at, err := line.Read(s, 0)
		if err != api.ErrLine || at == len(s) || s[at] >= 128 {
			continue
		}
		for _, behind := range []string{"", "x", " ", "\n", "#", "\xff", "\xa9", "é", ".1", "egin T s 1", "9", s} {
			if _, place, err := line.Read(s[:at+1]+behind, 0); place != at || err != api.ErrLine {
				t.Errorf("%q may not stand at %d of %q; with %q behind it Read tells %d, %d", s[at], at, s, behind, place, err)
			}
		}
	}
}

// P12.4: of what is ahead of what may not stand there each beginning is a line, or its end may not stand there.
func TestBeginnings(t *testing.T) {
	for _, s := range drawn(3, 30) {
		_, at, err := line.Read(s, 0)
		if err == api.ErrLong {
			continue
		}
		for end := range at + 1 {
			if end < len(s) && !utf8.RuneStart(s[end]) {
				continue
			}
			_, place, no := line.Read(s[:end], 0)
			if place != end || no != api.OK && no != api.ErrLine {
				t.Errorf("of %q, wrong at %d, %q is read as %d, %d", s, at, s[:end], place, no)
			}
		}
	}
}

// pairs tells so many objects and versions, each behind a blank.
func pairs(n int) string { return strings.Repeat(" x T.1", n) }

// P12.3: the name of which there are too many, and what comes ahead of it, and behind it.
func TestReadLimits(t *testing.T) {
	m := newModel()
	scan, order, match, first := "scan T P"+pairs(39), "order x"+strings.Repeat(" T", 299), "match P x"+strings.Repeat(" T", 299), "match P x -"+strings.Repeat(" T", 299)
	for _, c := range []struct{ s, one string }{{scan, pairs(1)}, {order, " T"}, {match, " T"}, {first, " T"}} {
		full := c.s + c.one
		for s, want := range map[string]fault{
			c.s:                       {len(c.s), 0},
			full:                      {len(full), 0},
			full + "\n":               {len(full) + 1, 0},
			full + " \t# x":           {len(full) + 5, 0},
			full + c.one:              {len(full) + 1, 3},
			full + c.one + c.one:      {len(full) + 1, 3},
			full + " x":               {len(full) + 1, 3},
			full + "  \tx$":           {len(full) + 3, 3},
			full + " é":               {len(full) + 1, 3},
			full + " " + long24 + "y": {len(full) + 1, 3},
			full + " x T.1000":        {len(full) + 1, 3},
			full + " -":               {len(full) + 1, 220},
			full + " 1":               {len(full) + 1, 220},
			full + " \xff":            {len(full) + 1, 220},
			full + " \xc3":            {len(full) + 1, 220},
			full + "$ x":              {len(full), 220},
			full + "\r x":             {len(full), 220},
		} {
			if got, at, err := line.Read(s, 0); at != want.at || err != want.err {
				t.Errorf("Read of %s is %v, %d, %d; not %d, %d", brief(s), short(got), at, err, want.at, want.err)
			}
			m.checkRead(t, s, 0)
		}
	}
}

// P12.3: each K, and where it is too much.
func TestReadK(t *testing.T) {
	for k := 1; k <= 3000; k++ {
		digits := strconv.Itoa(k)
		for _, ahead := range []string{"read T x T.", "scan T P x T.", "scan T P x - y é.", "read T x " + long24 + "."} {
			for _, behind := range []string{"", "\n", " ", "#", "x", "-", ".", "\xff"} {
				wantAt, want := len(ahead+digits), api.OK
				switch {
				case k > 999:
					wantAt, want = len(ahead), api.ErrLong
				case strings.Contains("x-.\xff", behind) && behind != "":
					want = api.ErrLine
				case behind != "":
					wantAt++
				}
				l, at, err := line.Read(ahead+digits+behind, 0)
				if at != wantAt || err != want || err == api.OK && l.Versions[len(l.Versions)-1].K != k {
					t.Errorf("Read of %q is %v, %d, %d; not %d, %d", ahead+digits+behind, l, at, err, wantAt, want)
				}
			}
		}
	}
}

// P12.3, R1: long texts are gone through in one go.
func TestLong(t *testing.T) {
	const n = 1 << 22
	digits, blanks, letters := strings.Repeat("9", n), strings.Repeat(" \t", n/2), strings.Repeat("a", n)
	for s, want := range map[string]fault{
		"read T x T." + digits:                 {11, 3},
		"read T x T." + strings.Repeat("0", n): {11, 220},
		blanks:                                 {n, 0},
		blanks + "commit" + blanks + "T" + blanks:     {3*n + 7, 0},
		"#" + letters + "\n" + letters:                {n + 2, 0},
		"# " + letters + "\x00" + letters:             {n + 2, 220},
		"commit " + letters:                           {31, 220},
		letters:                                       {1, 220},
		"commit T" + strings.Repeat("\n", n):          {9, 0},
		"scan T P" + pairs(n/8):                       {8 + 40*6 + 1, 3},
		"order x" + strings.Repeat(" T", n/2):         {7 + 300*2 + 1, 3},
		"want s" + strings.Repeat(" ryw", n/4):        {11, 220},
		strings.Repeat("\xff", n):                     {0, 220},
		"commit " + strings.Repeat("é", n/2):          {31, 220},
		"write T" + blanks + "é" + blanks + "#" + "é": {2*n + 12, 0},
	} {
		if _, at, err := line.Read(s, 0); at != want.at || err != want.err {
			t.Errorf("Read of %s is %d, %d; not %d, %d", brief(s), at, err, want.at, want.err)
		}
	}
}
