package line_test

import (
	"math/rand"
	"slices"
	"strconv"
	"strings"
	"testing"
	"unicode/utf8"

	"yardarm/api"
	"yardarm/line"
)

const long24 = "abcdefghijklmnopqrstuvwx"

// none is the version that an object has at first.
var none = api.Told{}

func told(name string, k int) api.Told { return api.Told{Name: name, K: k} }

// of tells a line of names alone.
func of(kind int, names ...string) api.Line { return api.Line{Kind: kind, Names: names} }

func begin(t, s string, l int) api.Line {
	return api.Line{Kind: 1, Names: []string{t, s}, Level: l}
}

func read(t, x string, v api.Told) api.Line {
	return api.Line{Kind: 3, Names: []string{t, x}, Versions: []api.Told{v}}
}

func match(first bool, names ...string) api.Line {
	return api.Line{Kind: 8, Names: names, First: first}
}

func want(s string, bits int) api.Line {
	return api.Line{Kind: 9, Names: []string{s}, Bits: bits}
}

// scan tells a scan of pairs of an object and a version.
func scan(names []string, l ...api.Told) api.Line {
	return api.Line{Kind: 4, Names: names, Versions: l}
}

// many tells n names, no two the same.
func many(n int) []string {
	var l []string
	for i := range n {
		l = append(l, "n"+strconv.Itoa(i))
	}
	return l
}

// isName tells whether s is a word.
func isName(s string) bool {
	if s == "" || len(s) > 24 || !utf8.ValidString(s) || strings.ContainsRune("0123456789", rune(s[0])) {
		return false
	}
	const may = "0123456789_abcdefghijklmnopqrstuvwxyzABCDEFGHIJKLMNOPQRSTUVWXYZ"
	return !strings.ContainsFunc(s, func(r rune) bool { return r < 128 && !strings.ContainsRune(may, r) })
}

// isTold tells whether v is a version.
func isTold(v api.Told) bool {
	return v == none || isName(v.Name) && 1 <= v.K && v.K <= 999
}

var levels = []string{"", "1", "2", "2.99", "3"}

var guards = []string{"ryw", "mr", "mw", "wfr"}

// words tells the words of guarantees.
func words(bits int) []string {
	var l []string
	for at, word := range guards {
		if bits>>at%2 == 1 {
			l = append(l, word)
		}
	}
	return l
}

// mayBe tells whether l may be, as the chapter's table says.
func mayBe(l api.Line) bool {
	for _, s := range l.Names {
		if !isName(s) {
			return false
		}
	}
	for _, v := range l.Versions {
		if !isTold(v) {
			return false
		}
	}
	n, v := len(l.Names), len(l.Versions)
	switch l.Kind {
	case 1:
		return n == 2 && v == 0 && 1 <= l.Level && l.Level <= 4 && !l.First && l.Bits == 0
	case 8:
		return 2 <= n && n <= 302 && v == 0 && l.Level == 0 && l.Bits == 0
	case 9:
		return n == 1 && v == 0 && l.Level == 0 && !l.First && 0 <= l.Bits && l.Bits <= 15
	}
	if l.Level != 0 || l.First || l.Bits != 0 {
		return false
	}
	switch l.Kind {
	case 0:
		return n == 0 && v == 0
	case 2:
		return n == 2 && v == 0
	case 3:
		return n == 2 && v == 1
	case 4:
		return n == v+2 && v <= 40
	case 5, 6:
		return n == 1 && v == 0
	case 7:
		return 1 <= n && n <= 301 && v == 0
	}
	return false
}

// toldText tells the text of a version.
func toldText(v api.Told) string {
	if v == none {
		return "-"
	}
	return v.Name + "." + strconv.Itoa(v.K)
}

// textOf tells the text of a line that may be.
func textOf(l api.Line) string {
	row := []string{[]string{"", "begin", "write", "read", "scan", "commit", "abort", "order", "match", "want"}[l.Kind]}
	for at, s := range l.Names {
		if at == 2 && l.First {
			row = append(row, "-")
		}
		row = append(row, s)
		if at >= 2 && l.Kind == 4 {
			row = append(row, toldText(l.Versions[at-2]))
		}
	}
	switch l.Kind {
	case 1:
		row = append(row, levels[l.Level])
	case 3:
		row = append(row, toldText(l.Versions[0]))
	case 8:
		if l.First && len(l.Names) == 2 {
			row = append(row, "-")
		}
	case 9:
		row = append(row, words(l.Bits)...)
	}
	return strings.Join(row, " ") + "\n"
}

// field is a piece of a line between blanks.
type field struct {
	at   int
	text string
}

// fields tells the pieces of s, up to a remark.
func fields(s string) []field {
	s, _, _ = strings.Cut(s, "#")
	var l []field
	begins := -1
	for at := range len(s) + 1 {
		switch blank := at == len(s) || s[at] == ' ' || s[at] == '\t'; {
		case blank && begins >= 0:
			l = append(l, field{begins, s[begins:at]})
			begins = -1
		case !blank && begins < 0:
			begins = at
		}
	}
	return l
}

// asTold tells the version whose text s is, however great its K; a K that does not fit is a great one.
func asTold(s string) (api.Told, bool) {
	if s == "-" {
		return none, true
	}
	name, digits, _ := strings.Cut(s, ".")
	if !isName(name) || digits == "" || digits[0] == '0' || strings.Trim(digits, "0123456789") != "" {
		return none, false
	}
	k, err := strconv.Atoi(digits)
	if err != nil {
		k = 1 << 40
	}
	return told(name, k), true
}

// isRemark tells whether s may stand behind a # up to the end.
func isRemark(s string) bool {
	return utf8.ValidString(s) && !strings.ContainsFunc(s, func(r rune) bool { return r < 32 && r != '\t' })
}

// asLine tells the line that s is, without a line feed, however many names it has, and however great their Ks.
func asLine(s string) (api.Line, bool) {
	if _, remark, _ := strings.Cut(s, "#"); !isRemark(remark) {
		return api.Line{}, false
	}
	var l api.Line
	var row []string
	for _, f := range fields(s) {
		row = append(row, f.text)
	}
	if len(row) == 0 {
		return l, true
	}
	l.Kind = 1 + slices.Index([]string{"begin", "write", "read", "scan", "commit", "abort", "order", "match", "want"}, row[0])
	if l.Kind == 0 {
		return l, false
	}
	least := []int{0, 3, 2, 3, 2, 1, 1, 1, 2, 1}[l.Kind]
	if row = row[1:]; len(row) < least {
		return l, false
	}
	switch l.Kind {
	case 1:
		l.Names, l.Level = row[:2], max(0, slices.Index(levels, row[2]))
		return l, len(row) == 3 && isName(row[0]) && isName(row[1]) && l.Level > 0
	case 3, 4:
		for at, s := range row {
			v, is := asTold(s)
			switch {
			case at >= 2 && (at%2 == 1 || l.Kind == 3):
				l.Versions = append(l.Versions, v)
			case isName(s):
				l.Names, is = append(l.Names, s), true
			default:
				is = false
			}
			if !is {
				return l, false
			}
		}
		return l, l.Kind == 3 && len(row) == 3 || l.Kind == 4 && len(row)%2 == 0
	case 8:
		if l.First = len(row) > 2 && row[2] == "-"; l.First {
			row = slices.Delete(slices.Clone(row), 2, 3)
		}
	case 9:
		for bits := range 16 {
			if slices.Equal(row[1:], words(bits)) {
				return want(row[0], bits), isName(row[0])
			}
		}
		return l, false
	}
	l.Names = row
	fine := !slices.ContainsFunc(row, func(s string) bool { return !isName(s) })
	return l, fine && (l.Kind > 6 || len(row) == least)
}

// ends tells ends of lines: by one of them each beginning of a line comes to a line.
func ends() []string {
	var l []string
	for _, s := range []string{
		"begin a a 1", "begin a a 2.99", "begin a a 3", "write a a", "read a a a.1", "read a a -", "scan a a a -", "scan a a a a.1",
		"commit a", "abort a", "order a a", "match a a - a", "want a ryw mr mw wfr", "want a ryw wfr", "want a mr wfr", "want a ryw mw",
	} {
		for at := range len(s) + 1 {
			if !slices.Contains(l, s[at:]) {
				l = append(l, s[at:])
			}
		}
	}
	slices.SortStableFunc(l, func(a, b string) int { return len(a) - len(b) })
	return l
}

// model knows of beginnings whether they are some line's.
type model struct {
	ends  []string
	known map[string]bool
}

func newModel() *model {
	return &model{ends(), map[string]bool{}}
}

// begins tells whether some line begins with s.
func (m *model) begins(s string) bool {
	is, known := m.known[s]
	if !known {
		is = slices.ContainsFunc(m.ends, func(end string) bool {
			_, is := asLine(s + end)
			return is
		})
		m.known[s] = is
	}
	return is
}

// tooMuch tells the first place in s, with which some line begins, of what is too much; -1, if there is none.
func tooMuch(s string) int {
	l := fields(s)
	for at, f := range l {
		first, dash := l[0].text, l[min(3, at)].text == "-"
		switch {
		case first == "scan" && at == 83, first == "order" && at == 302, first == "match" && (at == 303 && !dash || at == 304):
			return f.at
		case first == "read" && at == 3, first == "scan" && at > 2 && at%2 == 0:
			if v, is := asTold(f.text); is && v.K > 999 {
				return f.at + strings.Index(f.text, ".") + 1
			}
		}
	}
	return -1
}

// wantRead tells what the chapter's words say of a line that is read.
func (m *model) wantRead(s string, at int) (api.Line, int, api.Errno) {
	if at < 0 || at > len(s) {
		return api.Line{}, 0, 2
	}
	text, _, more := strings.Cut(s[at:], "\n")
	fine := len(text)
	for n := range text {
		_, size := utf8.DecodeRuneInString(text[n:])
		if !m.begins(text[:n+size]) {
			fine = n
			break
		}
	}
	if n := tooMuch(text[:fine]); n >= 0 {
		return api.Line{}, at + n, 3
	}
	l, is := asLine(text)
	if fine < len(text) || !is {
		return api.Line{}, at + fine, 220
	}
	if more {
		fine++
	}
	return l, at + fine, 0
}

// same tells whether both are the same, part by part.
func same(a, b api.Line) bool {
	return a.Kind == b.Kind && slices.Equal(a.Names, b.Names) && a.Level == b.Level &&
		slices.Equal(a.Versions, b.Versions) && a.First == b.First && a.Bits == b.Bits
}

// brief tells s so that it can be shown.
func brief(s string) string {
	if len(s) > 200 {
		return strconv.Quote(s[:100]) + " and so on, to " + strconv.Quote(s[len(s)-60:])
	}
	return strconv.Quote(s)
}

// checkRead checks what is read from the place at on.
func (m *model) checkRead(t *testing.T, s string, at int) {
	t.Helper()
	want, wantAt, wantErr := m.wantRead(s, at)
	got, next, err := line.Read(s, at)
	if !same(got, want) || next != wantAt || err != wantErr {
		t.Errorf("Read(%s, %d) is %v, %d, %d; not %v, %d, %d", brief(s), at, got, next, err, want, wantAt, wantErr)
	}
	if no := line.Check(got); err == api.OK && no != api.OK {
		t.Errorf("Read(%s, %d) is %v, of which Check tells %d", brief(s), at, got, no)
	}
}

// lines are lines that may be, of all kinds.
func lines() []api.Line {
	l := []api.Line{
		{}, begin("T1", "s", 1), begin("T", "T", 2), begin("a", "b", 3), begin(long24, "é", 4), of(2, "T", "x"), of(2, "write", "write"),
		read("T", "x", none), read("T", "x", told("T2", 3)), read("T", "x", told(long24, 999)), read("T", "x", told("é", 10)),
		scan([]string{"T", "P"}), scan([]string{"T", "P", "x"}, none), scan([]string{"T", "P", "x", "y", "x"}, told("a", 1), none, told("b", 100)),
		of(5, "T"), of(6, "T"), of(5, "commit"), of(7, "x"), of(7, "x", "T"), of(7, "x", "T", "U", "T"),
		match(false, "P", "x"), match(true, "P", "x"), match(false, "P", "x", "T"), match(true, "P", "x", "T", "U"),
		of(7, many(301)...), match(true, many(302)...), scan(many(42), slices.Repeat([]api.Told{told("t", 7)}, 40)...),
	}
	for bits := range 16 {
		l = append(l, want("s", bits))
	}
	return l
}

// texts are texts of lines, spelled in all ways.
func texts() []string {
	l := []string{
		"", " ", "\t \t", "#", "# x\ty", " #é\x7f", "\tbegin\tT s  2.99\t# a\n", "begin T s 3#", "read T x -#-", "match P x -\t", "order x#", "want s#",
		"scan T P x - y a.12 ", "match  P x - T1 T2", "want s ryw mw # mr", "commit \uFFFD", "write _ A9", "begin begin begin 1", "read é é é.9",
		"begin T s 2 # x\nbegin", "\n", "\n\n", "commit T\nabort T\n",
	}
	for _, s := range lines() {
		l = append(l, textOf(s))
	}
	return l
}

// changed tells s with one thing changed, at random.
func changed(r *rand.Rand, s string) string {
	pieces := []string{
		"", " ", "\t", "\n", "#", "-", ".", "0", "1", "9", "2.99", "2.9", "a", "x.1", "T.1000", "é", "\xc3", "\xa9", "\xff", "\uFFFD", "$", "\r", "\x00", "\x7f",
		"begin", "read", "scan", "ryw", "mr", "mw", "wfr", "m", long24,
	}
	at := r.Intn(len(s) + 1)
	end := min(len(s), at+r.Intn(3))
	return s[:at] + pieces[r.Intn(len(pieces))] + s[end:]
}
