package lex_test

import (
	"math"
	"regexp"
	"slices"
	"strings"
	"testing"
	"unsafe"

	"yardarm/api"
	"yardarm/lex"
)

const long24 = "abcdefghijklmnopqrstuvwx"

// P2.1: words, and what is none.
func TestWord(t *testing.T) {
	for s, want := range map[string]bool{
		"a": true, "z": true, "A": true, "Z": true, "_": true, "__": true, "T1": true, "a0b9": true,
		"ä1": true, "é": true, "日本": true, "😀": true, "٣": true, "\u0080": true, "a\u00a0": true, "\uFFFD": true, "a\uFFFDb": true,
		long24: true, strings.Repeat("é", 12): true, strings.Repeat("日", 8): true, strings.Repeat("😀", 6): true, "a" + strings.Repeat("1", 23): true,
		"": false, "1a": false, "0": false, "42": false, ".": false, "-": false, "-a": false, "a-b": false, "a.b": false, "a.1": false,
		" a": false, "a ": false, "a\t": false, "a b": false, "\na": false, "a\n": false, "a#": false, "#a": false, "$": false, "a$": false,
		"@": false, "[": false, "`": false, "{": false, "/": false, "a:": false, "\x7f": false, "a\x7f": false, "\x00": false, "a\x00": false,
		"\xff": false, "a\xff": false, "\xef\xbf": false, "a\xc3": false, "\xed\xa0\x80": false, "a\xc0\x80": false,
		long24 + "y": false, long24 + "1": false, strings.Repeat("é", 13): false, strings.Repeat("a", 23) + "é": false,
		strings.Repeat("a", 22) + "日": false, long24 + " ": false, strings.Repeat("a", 1000): false,
	} {
		if lex.Word(s) != want {
			t.Errorf("Word(%q) is %v", s, !want)
		}
	}
}

// P2.1: a word is what is read as one word, and nothing else.
func TestWordAll(t *testing.T) {
	for _, s := range append(texts(3), longTexts(20000)...) {
		token, end, err := wantNext(s, 0)
		want := err == api.OK && token.Kind == api.TkWord && token.At == 0 && end == len(s)
		if lex.Word(s) != want {
			t.Errorf("Word(%q) is %v", s, !want)
		}
	}
}

func token(kind, at int, text string, glued bool) api.Token {
	return api.Token{Kind: kind, At: at, Text: text, Glued: glued}
}

// P2.2: tokens from a place on.
func TestNext(t *testing.T) {
	for _, c := range []struct {
		s    string
		at   int
		want api.Token
		next int
	}{
		{"a b", 0, token(api.TkWord, 0, "a", false), 1},
		{"a b", 1, token(api.TkWord, 2, "b", false), 3},
		{"a b", 2, token(api.TkWord, 2, "b", false), 3},
		{"a\tb", 2, token(api.TkWord, 2, "b", false), 3},
		{"a\nb", 2, token(api.TkWord, 2, "b", false), 3},
		{"ab", 1, token(api.TkWord, 1, "b", true), 2},
		{"a.", 1, token(api.TkSign, 1, ".", true), 2},
		{"a .", 1, token(api.TkSign, 2, ".", false), 3},
		{"a -1", 2, token(api.TkSign, 2, "-", false), 3},
		{"a -1", 3, token(api.TkNumber, 3, "1", true), 4},
		{"--", 1, token(api.TkSign, 1, "-", true), 2},
		{"2.99", 2, token(api.TkNumber, 2, "99", true), 4},
		{"0a", 0, token(api.TkNumber, 0, "0", false), 1},
		{"0a", 1, token(api.TkWord, 1, "a", true), 2},
		{"10a", 0, token(api.TkNumber, 0, "10", false), 2},
		{"07", 1, token(api.TkNumber, 1, "7", true), 2},
		{"9223372036854775807", 0, token(api.TkNumber, 0, "9223372036854775807", false), 19},
		{"9223372036854775808", 1, token(api.TkNumber, 1, "223372036854775808", true), 19},
		{"é٣.", 0, token(api.TkWord, 0, "é٣", false), 4},
		{"é٣.", 4, token(api.TkSign, 4, ".", true), 5},
		{"\xffa", 1, token(api.TkWord, 1, "a", true), 2},
		{"a\n", 1, token(api.TkEnd, 1, "\n", false), 2},
		{"\n\n", 1, token(api.TkEnd, 1, "\n", false), 2},
		{" # \té$\x7f 07\nb", 0, token(api.TkEnd, 11, "\n", false), 12},
		{"a#b\nc", 1, token(api.TkEnd, 3, "\n", false), 4},
		{"a#b\nc", 2, token(api.TkWord, 2, "b", true), 3},
		{"##", 0, token(api.TkStop, 2, "", false), 2},
		{"# \uFFFD", 0, token(api.TkStop, 5, "", false), 5},
		{"", 0, token(api.TkStop, 0, "", false), 0},
		{"a", 1, token(api.TkStop, 1, "", false), 1},
		{"a \t", 1, token(api.TkStop, 3, "", false), 3},
		{long24, 0, token(api.TkWord, 0, long24, false), 24},
		{long24 + "y", 1, token(api.TkWord, 1, long24[1:]+"y", true), 25},
		{long24 + ".", 0, token(api.TkWord, 0, long24, false), 24},
		{long24 + "\xff", 0, token(api.TkWord, 0, long24, false), 24},
	} {
		if got, next, err := lex.Next(c.s, c.at); got != c.want || next != c.next || err != api.OK {
			t.Errorf("Next(%q, %d) is %+v, %d, %d; not %+v, %d", c.s, c.at, got, next, err, c.want, c.next)
		}
	}
}

// P2.2: what may not stand there, numbers that do not fit, and places that are none.
func TestNextWrong(t *testing.T) {
	for _, c := range []struct {
		s    string
		at   int
		next int
		err  api.Errno
	}{
		{"", -1, 0, 2},
		{"", 1, 0, 2},
		{"a", 2, 0, 2},
		{"$", 2, 0, 2},
		{"$", -1, 0, 2},
		{"a", math.MinInt, 0, 2},
		{"a", math.MaxInt, 0, 2},
		{"$", 0, 0, 120},
		{"a $", 1, 2, 120},
		{"+1", 0, 0, 120},
		{"a\r\n", 1, 1, 120},
		{"\x7f", 0, 0, 120},
		{"\x00", 0, 0, 120},
		{" \xff", 0, 1, 120},
		{"é", 1, 1, 120},
		{"\xed\xa0\x80", 0, 0, 120},
		{"# \x01", 0, 2, 120},
		{"a#é\xff\n", 1, 4, 120},
		{"#\r\n", 0, 1, 120},
		{"#\x1f", 0, 1, 120},
		{"#\xef\xbf", 0, 1, 120},
		{"07", 0, 1, 120},
		{"00", 0, 1, 120},
		{"x 00", 1, 3, 120},
		{"099999999999999999999", 0, 1, 120},
		{"9223372036854775808", 0, 0, 121},
		{"a.18446744073709551617", 2, 2, 121},
		{" 99999999999999999999$", 0, 1, 121},
		{"99999999999999999999\xff", 0, 0, 121},
		{long24 + "y", 0, 24, 120},
		{" " + long24 + "1", 0, 25, 120},
		{strings.Repeat("a", 23) + "é", 0, 23, 120},
		{strings.Repeat("a", 22) + "日\xff", 0, 22, 120},
		{strings.Repeat("é", 13), 0, 24, 120},
		{strings.Repeat("a", 23) + "\uFFFD", 0, 23, 120},
	} {
		if got, next, err := lex.Next(c.s, c.at); got != (api.Token{}) || next != c.next || err != c.err {
			t.Errorf("Next(%q, %d) is %+v, %d, %d; not %d, %d", c.s, c.at, got, next, err, c.next, c.err)
		}
	}
}

func checkNext(t *testing.T, s string) {
	t.Helper()
	for at := -1; at <= len(s)+1; at++ {
		want, wantAt, wantErr := wantNext(s, at)
		if got, next, err := lex.Next(s, at); got != want || next != wantAt || err != wantErr {
			t.Errorf("Next(%q, %d) is %+v, %d, %d; not %+v, %d, %d", s, at, got, next, err, want, wantAt, wantErr)
		}
	}
}

// P2.2, R1: every text, from every place on, in the midst of runes, too.
func TestNextAll(t *testing.T) {
	for _, s := range texts(4) {
		checkNext(t, s)
	}
	for _, s := range longTexts(20000) {
		checkNext(t, s)
	}
}

// P2.3: the tokens of a text, or the first that has an error.
func TestAll(t *testing.T) {
	want := []api.Token{
		token(api.TkWord, 0, "read", false), token(api.TkWord, 5, "T1", false), token(api.TkWord, 8, "x", false),
		token(api.TkWord, 10, "T2", false), token(api.TkSign, 12, ".", true), token(api.TkNumber, 13, "3", true), token(api.TkEnd, 14, "\n", false),
	}
	if l, n, err := lex.All("read T1 x T2.3\n"); !slices.Equal(l, want) || n != 15 || err != api.OK {
		t.Errorf("All is %+v, %d, %d", l, n, err)
	}
	for _, c := range []struct {
		s     string
		texts string
		n     int
		err   api.Errno
	}{
		{"", "", 0, 0},
		{" \t", "", 2, 0},
		{"# x", "", 3, 0},
		{"2.99 # x", "2 . 99", 8, 0},
		{"-1a\t.é", "- 1 a . é", 7, 0},
		{"a$", "", 1, 120},
		{"07", "", 1, 120},
		{"9223372036854775808", "", 0, 121},
		{strings.Repeat("a", 25), "", 24, 120},
		{"a 99999999999999999999 $", "", 2, 121},
		{"a $ 99999999999999999999", "", 2, 120},
		{"a 07 99999999999999999999", "", 3, 120},
		{"a # \x02 $", "", 4, 120},
		{"a\nb\n\xff", "", 4, 120},
	} {
		l, n, err := lex.All(c.s)
		var texts []string
		for _, x := range l {
			texts = append(texts, x.Text)
		}
		if strings.Join(texts, " ") != c.texts || n != c.n || err != c.err || err != api.OK && len(l) > 0 {
			t.Errorf("All(%q) is %q, %d, %d", c.s, texts, n, err)
		}
	}
}

// P2.3: every text is one of its tokens, or goes wrong at a place.
func TestAllAll(t *testing.T) {
	for _, s := range append(texts(4), longTexts(50000)...) {
		want, wantAt, wantErr := wantAll(s)
		if l, n, err := lex.All(s); !slices.Equal(l, want) || n != wantAt || err != wantErr {
			t.Errorf("All(%q) is %+v, %d, %d; not %+v, %d, %d", s, l, n, err, want, wantAt, wantErr)
		}
	}
}

// P2.4: where blanks stand, of any tokens.
func TestSpell(t *testing.T) {
	a := token(api.TkWord, 0, "a", false)
	glued := token(api.TkNumber, 9, "7", true)
	end := token(api.TkEnd, 0, "\n", false)
	for _, c := range []struct {
		l    []api.Token
		want string
	}{
		{nil, ""},
		{[]api.Token{a}, "a"},
		{[]api.Token{glued}, "7"},
		{[]api.Token{end}, "\n"},
		{[]api.Token{a, a}, "a a"},
		{[]api.Token{a, glued, a}, "a7 a"},
		{[]api.Token{a, end, a, a, end, end, a}, "a\na a\n\na"},
		{[]api.Token{a, end, glued}, "a\n7"},
		{[]api.Token{end, end}, "\n\n"},
		{[]api.Token{a, token(api.TkEnd, 0, "\n", true), a}, "a\na"},
		{[]api.Token{a, token(api.TkStop, 3, "", false), a}, "a  a"},
		{[]api.Token{token(api.TkStop, 3, "", false), a}, " a"},
		{[]api.Token{token(0, 0, "", false), token(-1, 0, "\xff", false), token(9, 0, " ", true), token(9, 0, "é", false)}, " \xff  é"},
	} {
		if s := lex.Spell(c.l...); s != c.want {
			t.Errorf("Spell(%+v) is %q; not %q", c.l, s, c.want)
		}
	}
}

var asBetween = regexp.MustCompile(`^[ \t]*(#[^\n]*)?$`)

// checkPlaces checks that each text stands at its place, and that nothing but blanks and remarks is between.
func checkPlaces(t *testing.T, s string, l []api.Token) {
	t.Helper()
	end := 0
	for _, x := range append(slices.Clone(l), api.Token{At: len(s)}) {
		if x.At < end || !strings.HasPrefix(s[x.At:], x.Text) || !asBetween.MatchString(s[end:x.At]) {
			t.Errorf("in %q %+v does not stand behind %d", s, x, end)
			return
		}
		end = x.At + len(x.Text)
	}
}

// plain tells tokens without their places.
func plain(l []api.Token) []api.Token {
	l = slices.Clone(l)
	for i := range l {
		l[i].At = 0
	}
	return l
}

// P2.5: places; what is spelled is read again as the same.
func TestLaws(t *testing.T) {
	for _, s := range append(texts(4), longTexts(50000)...) {
		l, _, err := lex.All(s)
		if err != api.OK {
			continue
		}
		checkPlaces(t, s, l)
		again, _, err := lex.All(lex.Spell(l...))
		if err != api.OK || !slices.Equal(plain(again), plain(l)) {
			t.Errorf("%q is spelled %q, which is %+v, %d", s, lex.Spell(l...), again, err)
		}
	}
}

// P2.5: two texts, with a line feed between them.
func TestTwoTexts(t *testing.T) {
	all := longTexts(40000)
	for i := 1; i < len(all); i++ {
		a, _, errA := lex.All(all[i-1])
		b, _, errB := lex.All(all[i])
		if errA != api.OK || errB != api.OK {
			continue
		}
		n := len(all[i-1])
		want := append(slices.Clone(a), token(api.TkEnd, n, "\n", false))
		for _, x := range b {
			x.At += n + 1
			want = append(want, x)
		}
		s := all[i-1] + "\n" + all[i]
		if l, _, err := lex.All(s); err != api.OK || !slices.Equal(l, want) {
			t.Errorf("All(%q) is %+v, %d", s, l, err)
		}
	}
}

// R1: what is long is read, too, and wrong at its place.
func TestLong(t *testing.T) {
	const many = 1 << 18
	if l, n, err := lex.All(strings.Repeat("a.1 ", many)); len(l) != 3*many || n != 4*many || err != api.OK {
		t.Errorf("many tokens are %d, %d, %d", len(l), n, err)
	}
	if l, n, err := lex.All(strings.Repeat(" ", many) + "#" + strings.Repeat("é", many)); len(l) != 0 || n != 3*many+1 || err != api.OK {
		t.Errorf("a long remark is %d, %d, %d", len(l), n, err)
	}
	for s, want := range map[string]struct {
		at  int
		err api.Errno
	}{
		"a " + strings.Repeat("9", many):       {2, api.ErrBig},
		"a 0" + strings.Repeat("9", many):      {3, api.ErrLex},
		"a " + strings.Repeat("b", many):       {26, api.ErrLex},
		"#" + strings.Repeat("b", many) + "\v": {many + 1, api.ErrLex},
	} {
		if l, n, err := lex.All(s); len(l) != 0 || n != want.at || err != want.err {
			t.Errorf("All(%q..) is %d, %d, %d", s[:5], len(l), n, err)
		}
	}
}

// R3: what is handed in stays as it is, the room behind its end, too.
func TestSpellKeepsList(t *testing.T) {
	l, _, _ := lex.All("a.1 b\nc")
	before := slices.Clone(l)
	for range 2 {
		if s := lex.Spell(l[:3:5]...); s != "a.1" {
			t.Errorf("Spell is %q", s)
		}
	}
	if !slices.Equal(l, before) {
		t.Errorf("the list is %+v now", l)
	}
}

// R3: tokens' texts, and what is spelled, are new memory.
func TestNewMemory(t *testing.T) {
	s := "word 12 . - \n x"
	first := uintptr(unsafe.Pointer(unsafe.StringData(s)))
	l, _, _ := lex.All(s)
	one := lex.Spell(l[0])
	if unsafe.StringData(one) == unsafe.StringData(l[0].Text) {
		t.Errorf("%q is the token's text", one)
	}
	for _, x := range l {
		if at := uintptr(unsafe.Pointer(unsafe.StringData(x.Text))); first <= at && at < first+uintptr(len(s)) {
			t.Errorf("%+v is a piece of the text", x)
		}
	}
}

// The chapter's errors, kinds and limit.
func TestConstants(t *testing.T) {
	if api.ErrArg != 2 || api.ErrLex != 120 || api.ErrBig != 121 || api.MaxName != 24 {
		t.Errorf("the errors are %d, %d, %d, the limit %d", api.ErrArg, api.ErrLex, api.ErrBig, api.MaxName)
	}
	if kinds := []int{api.TkWord, api.TkNumber, api.TkSign, api.TkEnd, api.TkStop}; !slices.Equal(kinds, []int{1, 2, 3, 4, 5}) {
		t.Errorf("the kinds are %d", kinds)
	}
}
