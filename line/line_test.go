package line_test

import (
	"math"
	"math/rand"
	"slices"
	"strings"
	"testing"

	"yardarm/api"
	"yardarm/line"
)

// P12.3: the chapter's examples, of lines.
func TestExamples(t *testing.T) {
	for s, want := range map[string]api.Line{
		"begin T1 s 2.99":      begin("T1", "s", 3),
		"read T x T2.3 # y":    read("T", "x", told("T2", 3)),
		"scan T P x - y a.1":   scan([]string{"T", "P", "x", "y"}, none, told("a", 1)),
		"match P x - T1":       match(true, "P", "x", "T1"),
		"want s ryw wfr":       want("s", 9),
		" ":                    {},
		"":                     {},
		"#":                    {},
		"\t# é\x7f\t#":         {},
		"want s":               want("s", 0),
		"want s ryw mr mw wfr": want("s", 15),
		"order x#T":            of(7, "x"),
		"order x":              of(7, "x"),
		"match P x":            match(false, "P", "x"),
		"match P x -":          match(true, "P", "x"),
		"scan T P":             scan([]string{"T", "P"}),
		"begin T s 2#.99":      begin("T", "s", 2),
		"\t write\tT  x \t":    of(2, "T", "x"),
		"abort abort":          of(6, "abort"),
		"commit \uFFFD9":       of(5, "\uFFFD9"),
		"read T x a.999":       read("T", "x", told("a", 999)),
	} {
		for end, more := range map[string]int{"": 0, "\n": 1, "\n$": 1, "\ncommit T": 1, "\n\n": 1} {
			if got, at, err := line.Read(s+end, 0); !same(got, want) || at != len(s)+more || err != api.OK {
				t.Errorf("Read(%q, 0) is %v, %d, %d; not %v", s+end, got, at, err, want)
			}
		}
	}
}

// fault is where a text goes wrong, and how.
type fault struct {
	at  int
	err api.Errno
}

// wrong are texts that go wrong, the chapter's examples among them.
var wrong = map[string]fault{
	"bex":                             {2, 220},
	"beginx T":                        {5, 220},
	"com":                             {3, 220},
	"begin T s 4":                     {10, 220},
	"begin T s 2.98":                  {13, 220},
	"read T x T2":                     {11, 220},
	"read T x T2.0":                   {12, 220},
	"commit T T":                      {9, 220},
	"want s mr ryw":                   {10, 220},
	"read T x T.1000":                 {11, 3},
	"read T x T.1000$":                {11, 3},
	"read T x T.999$":                 {14, 220},
	"read T x T.01000":                {11, 220},
	"read T x T.1000\xff":             {11, 3},
	"read T x T.-1":                   {11, 220},
	"read T x T. 1":                   {11, 220},
	"read T x T .1":                   {10, 220},
	"read T x T.x":                    {11, 220},
	"read T x T.":                     {11, 220},
	"read T x T.1.1":                  {12, 220},
	"read T x T.1-":                   {12, 220},
	"read T x --":                     {10, 220},
	"read T x -1":                     {10, 220},
	"read T x":                        {8, 220},
	"read T x 1.1":                    {9, 220},
	"read T x - -":                    {11, 220},
	"begin":                           {5, 220},
	"begin#":                          {5, 220},
	"begin #":                         {6, 220},
	"begin\nT":                        {5, 220},
	"begin \nT":                       {6, 220},
	"beginT":                          {5, 220},
	"begin T s 2.9":                   {13, 220},
	"begin T s 2.":                    {12, 220},
	"begin T s 2. ":                   {12, 220},
	"begin T s 2.999":                 {14, 220},
	"begin T s 2.99T":                 {14, 220},
	"begin T s 10":                    {11, 220},
	"begin T s 3.0":                   {11, 220},
	"begin T s -":                     {10, 220},
	"begin T s 1 x":                   {12, 220},
	"begin T 1":                       {8, 220},
	"begin T 07":                      {8, 220},
	"begin T 99999999999999999999":    {8, 220},
	"begin T -":                       {8, 220},
	"Begin T s 1":                     {0, 220},
	"1":                               {0, 220},
	"-":                               {0, 220},
	".":                               {0, 220},
	"07":                              {0, 220},
	"é":                               {0, 220},
	"\ufeffcommit T":                  {0, 220},
	" x":                              {1, 220},
	"\r\n":                            {0, 220},
	"commit T\r\n":                    {8, 220},
	"commit T.1":                      {8, 220},
	"commit T-":                       {8, 220},
	"commit -":                        {7, 220},
	"commit " + long24 + "y":          {31, 220},
	"commit " + long24 + "1":          {31, 220},
	"commit " + long24 + "é":          {31, 220},
	"commit a" + long24[:22] + "é":    {30, 220},
	"commit T\xff":                    {8, 220},
	"commit \xff":                     {7, 220},
	"commit T\xc3":                    {8, 220},
	"commit T\xc3(":                   {8, 220},
	"commit \xc3(":                    {7, 220},
	"c\xc3\xa9":                       {1, 220},
	"# \x01":                          {2, 220},
	"#a\r\n":                          {2, 220},
	"# \xff":                          {2, 220},
	"#é\xc3(":                         {3, 220},
	"commit T # \xed\xa0\x80":         {11, 220},
	"want s rywmr":                    {10, 220},
	"want s ryw ryw":                  {11, 220},
	"want s mr mr":                    {11, 220},
	"want s mw mr":                    {10, 220},
	"want s wfr x":                    {11, 220},
	"want s w":                        {8, 220},
	"want s m":                        {8, 220},
	"want s ry mr":                    {9, 220},
	"want s é":                        {7, 220},
	"want s -":                        {7, 220},
	"want":                            {4, 220},
	"match P x -T":                    {11, 220},
	"match P x - -":                   {12, 220},
	"match P x T -":                   {12, 220},
	"match P -":                       {8, 220},
	"match P x -.":                    {11, 220},
	"order x -":                       {8, 220},
	"order":                           {5, 220},
	"scan T P x":                      {10, 220},
	"scan T P x #":                    {11, 220},
	"scan T P x y":                    {12, 220},
	"scan T P -":                      {9, 220},
	"scan T P x - y":                  {14, 220},
	"scan T P x - y y.1000 z":         {17, 3},
	"scan T P x y.1000 1":             {13, 3},
	"scan T P x -y":                   {12, 220},
	"read T x T.18446744073709551617": {11, 3},
	"read T x T.9223372036854775808 ": {11, 3},
	"read T x T.4294967297":           {11, 3},
	"read T x T.9223372036854775807":  {11, 3},
	"read T x T.99999999999999999999999999999999999999": {11, 3},
}

// P12.3: what may not stand there, and what is too much, and where; whatever is ahead.
func TestWrong(t *testing.T) {
	for s, want := range wrong {
		for _, ahead := range []string{"", " ", "x", "\n", "commit T\n", "# ", "\xff", "\xc3"} {
			if got, at, err := line.Read(ahead+s, len(ahead)); !same(got, api.Line{}) || at != len(ahead)+want.at || err != want.err {
				t.Errorf("Read(%q, %d) is %v, %d, %d; not %d, %d", ahead+s, len(ahead), got, at, err, len(ahead)+want.at, want.err)
			}
		}
	}
}

// P12.3: places that are none.
func TestNoPlace(t *testing.T) {
	for _, s := range []string{"", "\n", "x", "commit T", "commit T\n"} {
		for _, at := range []int{-1, math.MinInt, len(s) + 1, len(s) + 2, 1 << 32, math.MaxInt} {
			if got, next, err := line.Read(s, at); !same(got, api.Line{}) || next != 0 || err != api.ErrArg {
				t.Errorf("Read(%q, %d) is %v, %d, %d", s, at, got, next, err)
			}
		}
	}
}

// The chapter's error and kinds.
func TestConstants(t *testing.T) {
	got := []int{
		int(api.ErrArg), int(api.ErrLong), int(api.ErrLine), api.EvBegin, api.EvWrite, api.EvRead, api.EvScan, api.EvCommit, api.EvAbort,
		api.LnOrder, api.LnMatch, api.LnWant, api.MaxScan, api.MaxTransactions, api.MaxWrites,
	}
	if want := []int{2, 3, 220, 1, 2, 3, 4, 5, 6, 7, 8, 9, 40, 300, 999}; !slices.Equal(got, want) {
		t.Errorf("the constants are %v, not %v", got, want)
	}
}

// P12.3: from every place on, in the midst of lines, and runes, too.
func TestEveryPlace(t *testing.T) {
	m := newModel()
	for _, s := range append(texts(), strings.Join(texts()[:40], "\n")) {
		if len(s) > 2000 {
			continue
		}
		for at := -1; at <= len(s)+1; at++ {
			m.checkRead(t, s, at)
		}
	}
}

// P12.3: every byte at every place, put there and put between.
func TestEveryByte(t *testing.T) {
	m := newModel()
	for _, s := range []string{"begin T s 2.99 # é", "scan T P x - y a.12", "match P x - T1", "want s ryw wfr", "read é1 x T.9#"} {
		for at := range len(s) + 1 {
			for c := range 256 {
				m.checkRead(t, s[:at]+string([]byte{byte(c)})+s[at:], 0)
				if at < len(s) {
					m.checkRead(t, s[:at]+string([]byte{byte(c)})+s[at+1:], 0)
				}
			}
			m.checkRead(t, s[:at], 0)
		}
	}
}

// P12.3: all short rows of pieces behind how lines begin.
func TestShort(t *testing.T) {
	m := newModel()
	pieces := []string{" ", "\t", "\n", "#", "-", ".", "0", "1", "9", "a", "é", "\xff", "$"}
	rows := []string{""}
	for at := 0; len(rows[at]) < 3; at++ {
		for _, piece := range pieces {
			rows = append(rows, rows[at]+piece)
		}
	}
	for _, begins := range []string{
		"", "c", "begin", "begin a a", "begin a a ", "begin a a 2", "begin a a 2.", "write a a", "read a a", "read a a b", "read a a b.", "read a a b.9",
		"scan a a", "scan a a a", "scan a a a -", "scan a a a b.1", "commit", "abort a", "order", "order a", "match a", "match a a", "match a a -", "want a", "want a mr",
	} {
		for _, row := range rows {
			m.checkRead(t, begins+row, 0)
		}
	}
}

// P12.3: all short rows of words.
func TestWords(t *testing.T) {
	m := newModel()
	words := []string{"begin", "scan", "order", "match", "want", "a", "-", "b.7", "2.99", "2", "ryw", "mr", "mw", "wfr"}
	rows := []string{""}
	for range 3 {
		for _, row := range rows {
			for _, word := range words {
				rows = append(rows, row+" "+word)
			}
		}
		slices.Sort(rows)
		rows = slices.Compact(rows)
	}
	for _, row := range rows {
		m.checkRead(t, row, 0)
		m.checkRead(t, "scan a"+row, 0)
		m.checkRead(t, "want a"+row, 0)
	}
}

// P12.3, R1: texts in which more and more is changed.
func TestDrawn(t *testing.T) {
	r := rand.New(rand.NewSource(12))
	m := newModel()
	for _, s := range texts() {
		if len(s) > 2000 {
			continue
		}
		for range 30 {
			one := s
			for range 4 {
				one = changed(r, one)
				m.checkRead(t, one, 0)
				m.checkRead(t, one, r.Intn(len(one)+1))
			}
		}
	}
}
