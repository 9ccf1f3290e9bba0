package level_test

import (
	"math/rand"
	"slices"
	"strings"
	"testing"

	"yardarm/api"
	"yardarm/level"
)

// checkText checks that l has this text; none, if l is no level.
func checkText(t *testing.T, l int) {
	t.Helper()
	want, is := levelTexts[l]
	no := api.ErrLevel
	if is {
		no = api.OK
	}
	if err := level.Check(l); err != no {
		t.Errorf("Check(%d) is %d", l, err)
	}
	if s, err := level.Text(l); s != want || err != no {
		t.Errorf("Text(%d) is %q, %d", l, s, err)
	}
}

// checkRead checks what level's text s is.
func checkRead(t *testing.T, s string) {
	t.Helper()
	want, no := 0, api.ErrLevel
	for l, text := range levelTexts {
		if text == s {
			want, no = l, api.OK
		}
	}
	if l, err := level.Read(s); l != want || err != no {
		t.Errorf("Read(%q) is %d, %d", s, l, err)
	}
}

// checkGuarantees checks what guarantees' text s is.
func checkGuarantees(t *testing.T, s string) {
	t.Helper()
	want, no := slices.Index(wordTexts, s), api.OK
	if want < 0 {
		want, no = 0, api.ErrLevel
	}
	if g, err := level.Guarantees(s); g != want || err != no {
		t.Errorf("Guarantees(%q) is %d, %d", s, g, err)
	}
}

// P9.1 to P9.4: the chapter's examples.
func TestExamples(t *testing.T) {
	checkText(t, 3)
	checkText(t, 0)
	for _, s := range []string{"2.99", "3.0", ""} {
		checkRead(t, s)
	}
	if s, err := level.Words(13); s != "ryw mw wfr" || err != api.OK {
		t.Errorf("Words(13) is %q, %d", s, err)
	}
	for _, s := range []string{"mr mw", "mw mr", ""} {
		checkGuarantees(t, s)
	}
	is, err := level.Below([]int{1, 2}, []int{2, 2})
	isNot, err2 := level.Below([]int{1, 3}, []int{2, 2})
	none, err3 := level.Below([]int{1}, []int{1, 1})
	if !is || isNot || none || err != api.OK || err2 != api.OK || err3 != api.ErrArg {
		t.Errorf("Below is %v, %v, %v; %d, %d, %d", is, isNot, none, err, err2, err3)
	}
	row, err := level.Join([]int{1, 3}, []int{2, 2})
	checkRow(t, "Join", row, err, []int{2, 3}, api.OK)
	row, err = level.Meet([]int{1, 3}, []int{2, 2})
	checkRow(t, "Meet", row, err, []int{1, 2}, api.OK)
	row, err = level.With([]int{1, 1}, 1, 4)
	checkRow(t, "With", row, err, []int{1, 4}, api.OK)
	row, err = level.Uniform(2, 4)
	checkRow(t, "Uniform", row, err, []int{4, 4}, api.OK)
}

// The levels, the guarantees and the errors are those of package api.
func TestNumbers(t *testing.T) {
	if !slices.Equal([]int{api.PL1, api.PL2, api.PL299, api.PL3}, []int{1, 2, 3, 4}) || api.ErrLevel != 190 || api.ErrArg != 2 {
		t.Errorf("the levels are %d, %d, %d, %d, the errors %d, %d", api.PL1, api.PL2, api.PL299, api.PL3, api.ErrLevel, api.ErrArg)
	}
	for g, want := range map[int]string{api.GuRyw: "ryw", api.GuMr: "mr", api.GuMw: "mw", api.GuWfr: "wfr", api.GuAll: "ryw mr mw wfr"} {
		if s, err := level.Words(g); s != want || err != api.OK {
			t.Errorf("Words(%d) is %q, %d", g, s, err)
		}
	}
}

// P9.1: which numbers are levels, and their texts.
func TestCheckText(t *testing.T) {
	for l := -300; l <= 300; l++ {
		checkText(t, l)
	}
	for _, l := range outside {
		checkText(t, l)
	}
}

// P9.1: of all short texts the levels' four are read alone.
func TestRead(t *testing.T) {
	const signs = "012349. -P\x00"
	texts := []string{""}
	for at := 0; at < len(texts); at++ {
		for _, sign := range []byte(signs) {
			if len(texts[at]) < 5 {
				texts = append(texts, texts[at]+string(sign))
			}
		}
	}
	for _, s := range texts {
		checkRead(t, s)
	}
	for _, s := range []string{"PL1", "PL2.99", "2,99", "2.990", "02.99", "2.999", "+1", "1\n", "\n1", "1\r", "\t2", "2.99 ", "0x1", "1e0", "\u0661", "\uff13", "\ufeff1", "\xff", "1\xff", "2\u00b799", strings.Repeat("3", 1<<20), strings.Repeat(" ", 1<<20)} {
		checkRead(t, s)
	}
}

// P9.2: the text of all guarantees, and of what is none.
func TestWords(t *testing.T) {
	for g := -300; g <= 300; g++ {
		want, no := "", api.ErrLevel
		if 0 <= g && g < len(wordTexts) {
			want, no = wordTexts[g], api.OK
		}
		if s, err := level.Words(g); s != want || err != no {
			t.Errorf("Words(%d) is %q, %d", g, s, err)
		}
	}
	for _, g := range outside {
		if s, err := level.Words(g); s != "" || err != api.ErrLevel {
			t.Errorf("Words(%d) is %q, %d", g, s, err)
		}
	}
}

// P9.2: of all rows of words those are guarantees that are in order, and have each once; and one blank alone stands between two.
func TestGuarantees(t *testing.T) {
	words := []string{"ryw", "mr", "mw", "wfr", "", "r"}
	for _, row := range rows(5, 0, len(words)-1) {
		var list []string
		for _, at := range row {
			list = append(list, words[at])
		}
		for _, between := range []string{" ", "", ",", "\t", "  "} {
			checkGuarantees(t, strings.Join(list, between))
		}
	}
	for _, s := range []string{"RYW", "Mr", "none", "all", "0", "1", "15", "\xff", "ryw\u00a0mr", "ryw\x00", "\ufeffryw", strings.Repeat("ryw ", 1<<18), strings.Repeat(" ", 1<<20)} {
		checkGuarantees(t, s)
	}
}

// P9.2: a byte more, a byte less, or another one makes other guarantees of a text, or none.
func TestGuaranteesByte(t *testing.T) {
	bytes := []byte("rywmf \n\t,R\x00\xff")
	for _, s := range wordTexts {
		for at := range len(s) + 1 {
			for _, b := range bytes {
				checkGuarantees(t, s[:at]+string([]byte{b})+s[at:])
			}
			if at == len(s) {
				continue
			}
			checkGuarantees(t, s[:at]+s[at+1:])
			for _, b := range bytes {
				checkGuarantees(t, s[:at]+string([]byte{b})+s[at+1:])
			}
		}
	}
}

// P9.3: from none to 1000 times a level; how many goes ahead of what is no level.
func TestUniform(t *testing.T) {
	sizes := append([]int{0, 1, 2, 3, 299, 300, 301, 999, 1000, 1001, 1002}, outside...)
	for _, n := range sizes {
		for _, l := range append([]int{0, 1, 2, 3, 4, 5}, outside...) {
			var want []int
			no := api.OK
			switch {
			case n < 0 || n > 1000:
				no = api.ErrArg
			case !fine([]int{l}):
				no = api.ErrLevel
			default:
				for range n {
					want = append(want, l)
				}
			}
			row, err := level.Uniform(n, l)
			checkRow(t, "Uniform", row, err, want, no, n, l)
		}
	}
}

// checkWith checks what With tells of a, i and l.
func checkWith(t *testing.T, a []int, i, l int) {
	t.Helper()
	var want []int
	no := api.OK
	switch {
	case !fine(a) || !fine([]int{l}):
		no = api.ErrLevel
	case i < 0 || i >= len(a):
		no = api.ErrArg
	default:
		want = slices.Concat(a[:i], []int{l}, a[i+1:])
	}
	row, err := level.With(a, i, l)
	checkRow(t, "With", row, err, want, no, a, i, l)
}

// P9.3: another level at each place; what is no level, wherever it stands, goes ahead of what is no place.
func TestWith(t *testing.T) {
	for _, a := range rows(3, 0, 5) {
		for i := -1; i <= len(a)+1; i++ {
			for l := 0; l <= 5; l++ {
				checkWith(t, a, i, l)
			}
		}
		for _, n := range outside {
			checkWith(t, a, n, 1)
			checkWith(t, a, n, n)
			checkWith(t, a, 0, n)
		}
	}
	r := rand.New(rand.NewSource(9))
	for _, n := range []int{300, 1000, 1001, 5000} {
		for range 20 {
			checkWith(t, anyRow(r, n), r.Intn(n), 1+r.Intn(4))
		}
		for _, i := range []int{-1, 0, n - 1, n, n + 1} {
			checkWith(t, anyRow(r, n), i, 2)
		}
	}
}

// checkTwo checks what is told of two rows.
func checkTwo(t *testing.T, a, b []int) {
	t.Helper()
	w := twoOf(a, b)
	if is, err := level.Below(a, b); is != w.below || err != w.err {
		t.Errorf("Below(%v, %v) is %v, %d", a, b, is, err)
	}
	row, err := level.Join(a, b)
	checkRow(t, "Join", row, err, w.join, w.err, a, b)
	row, err = level.Meet(a, b)
	checkRow(t, "Meet", row, err, w.meet, w.err, a, b)
}

// P9.4: of all short rows, assignments or not, of one length or not.
func TestTwo(t *testing.T) {
	all := rows(3, 0, 5)
	for _, a := range all {
		for _, b := range all {
			checkTwo(t, a, b)
		}
	}
	checkTwo(t, nil, []int{})
	checkTwo(t, []int{}, nil)
}

// P9.4: of long rows; one level, wherever it stands, decides.
func TestTwoLong(t *testing.T) {
	r := rand.New(rand.NewSource(10))
	for _, n := range []int{299, 300, 301, 1000, 1001, 5000} {
		for range 10 {
			a, b := anyRow(r, n), anyRow(r, n)
			checkTwo(t, a, b)
			join := twoOf(a, b).join
			checkTwo(t, a, join)
			checkTwo(t, join, a)
			checkTwo(t, a, a[:n-1])
			checkTwo(t, a[:1], a)
		}
	}
	even := slices.Repeat([]int{2}, 300)
	for at := range even {
		for _, l := range append([]int{0, 1, 3, 5}, outside...) {
			other := slices.Clone(even)
			other[at] = l
			checkTwo(t, even, other)
			checkTwo(t, other, even)
			checkTwo(t, other, even[:299])
			checkTwo(t, even[:1], other)
		}
	}
}

// P9.5: what is told as a text is read as it was, and the other way round.
func TestTextsBack(t *testing.T) {
	for l, text := range levelTexts {
		s, _ := level.Text(l)
		back, err := level.Read(s)
		read, _ := level.Read(text)
		again, err2 := level.Text(read)
		if back != l || again != text || err != api.OK || err2 != api.OK {
			t.Errorf("%d is read as %d, %q told as %q", l, back, text, again)
		}
	}
	for g, text := range wordTexts {
		s, _ := level.Words(g)
		back, err := level.Guarantees(s)
		read, _ := level.Guarantees(text)
		again, err2 := level.Words(read)
		if back != g || again != text || err != api.OK || err2 != api.OK {
			t.Errorf("%d is read as %d, %q told as %q", g, back, text, again)
		}
	}
}

// below tells whether a is below b, and that both are assignments of one length.
func below(t *testing.T, a, b []int) bool {
	t.Helper()
	is, err := level.Below(a, b)
	if err != api.OK {
		t.Errorf("Below(%v, %v) is %d", a, b, err)
	}
	return is
}

// checkLaws checks what follows of three assignments of one length.
func checkLaws(t *testing.T, a, b, c []int) {
	t.Helper()
	join, _ := level.Join(a, b)
	meet, _ := level.Meet(a, b)
	if !below(t, a, join) || !below(t, b, join) || !below(t, meet, a) || !below(t, meet, b) {
		t.Errorf("of %v, %v the join is %v, the meet %v", a, b, join, meet)
	}
	is := below(t, a, b)
	if is != slices.Equal(join, b) || is != slices.Equal(meet, a) {
		t.Errorf("that %v is below %v is %v; the join is %v, the meet %v", a, b, is, join, meet)
	}
	if below(t, a, c) && below(t, b, c) != below(t, join, c) {
		t.Errorf("%v is below %v, and not the join of %v and %v", b, c, a, b)
	}
	if below(t, c, a) && below(t, c, b) != below(t, c, meet) {
		t.Errorf("%v is above %v, and not the meet of %v and %v", b, c, a, b)
	}
}

// P9.5: Join is the least that both are below, Meet the greatest that is below both.
func TestLaws(t *testing.T) {
	all := rows(2, 1, 4)
	for _, a := range all {
		for _, b := range all {
			for _, c := range all {
				if len(a) == len(b) && len(b) == len(c) {
					checkLaws(t, a, b, c)
				}
			}
		}
	}
	r := rand.New(rand.NewSource(11))
	for n := range 301 {
		a, b, c := anyRow(r, n), anyRow(r, n), anyRow(r, n)
		checkLaws(t, a, b, c)
		w := twoOf(a, b)
		checkLaws(t, a, b, w.join)
		checkLaws(t, a, b, w.meet)
		checkLaws(t, a, w.join, twoOf(w.join, c).join)
	}
}
