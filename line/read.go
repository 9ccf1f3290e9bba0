package line

import (
	"slices"
	"strings"

	"yardarm/api"
	"yardarm/digit"
	"yardarm/level"
	"yardarm/lex"
)

// reader reads a line of a text.
type reader struct {
	text   string
	at     int // up to where it was gone over
	behind int // the place behind the last word, sign or version; -1, as long as there is none
	line   api.Line
}

// read goes over the whole line.
func (r *reader) read() {
	if r.more() {
		words := kinds
		r.line.Kind = 1 + r.choice(words[1:]...)
		through(r.line.Kind, r)
		if r.more() {
			r.wrong(r.at)
		}
	}
	_, next, err := lex.Next(r.text, r.at)
	if err != api.OK {
		r.wrong(next)
	}
	r.at = next
}

func (r *reader) name() {
	r.need()
	r.line.Names = append(r.line.Names, r.word())
}

func (r *reader) level() {
	r.need()
	var texts []string
	for l := api.PL1; level.Check(l) == api.OK; l++ {
		text, _ := level.Text(l)
		texts = append(texts, text)
	}
	r.line.Level = api.PL1 + r.choice(texts...)
}

func (r *reader) version() {
	r.need()
	var v api.Told
	if !r.sign("-") {
		v.Name = r.word()
		if !r.sign(".") {
			r.wrong(r.at)
		}
		v.K = r.number()
	}
	r.line.Versions = append(r.line.Versions, v)
}

func (r *reader) first() {
	r.line.First = r.more() && r.sign("-")
}

func (r *reader) guarantees() {
	text, _ := level.Words(api.GuAll)
	may := strings.Fields(text)
	var said []string
	for r.more() {
		n := r.choice(may...)
		said = append(said, may[n])
		may = may[n+1:]
	}
	r.line.Bits, _ = level.Guarantees(strings.Join(said, " "))
}

func (r *reader) repeat(most int, row ...func()) {
	for n := 0; r.more(); n++ {
		r.letter()
		if n == most {
			panic(fault{r.at, api.ErrLong})
		}
		all(row...)
	}
}

// more goes over blanks, and tells whether something of the line is behind them.
func (r *reader) more() bool {
	r.at += len(run(r.rest(), func(_ int, c rune) bool { return c == ' ' || c == '\t' }))
	switch head(r.rest()) {
	case "", "\n", "#":
		return false
	}
	if r.at == r.behind {
		r.wrong(r.at)
	}
	return true
}

// need leaves the line, if nothing more is there.
func (r *reader) need() {
	if !r.more() {
		r.wrong(r.at)
	}
}

// letter leaves the line, if no name begins there.
func (r *reader) letter() {
	if !lex.Word(head(r.rest())) {
		r.wrong(r.at)
	}
}

// word goes over the name that stands there, and tells it.
func (r *reader) word() string {
	r.letter()
	token, next, err := lex.Next(r.text, r.at)
	if err != api.OK {
		r.wrong(next)
	}
	r.take(token.Text)
	return token.Text
}

// number goes over the number of a write that stands there, and tells it.
func (r *reader) number() int {
	if n, _ := digit.Read(head(r.rest())); n == 0 {
		r.wrong(r.at)
	}
	digits, _ := digit.Head(r.rest())
	n, err := digit.Read(digits)
	if err != api.OK || n > api.MaxWrites {
		panic(fault{r.at, api.ErrLong})
	}
	r.take(digits)
	return int(n)
}

// sign goes over the sign, and tells true, if it stands there.
func (r *reader) sign(s string) bool {
	if head(r.rest()) != s {
		return false
	}
	r.take(s)
	return true
}

// choice goes over the one of the words that stands there, and tells its place among them; where no word goes on so, the line is wrong. No word is empty.
func (r *reader) choice(words ...string) int {
	rest := r.rest()
	said := run(rest, func(at int, c rune) bool {
		begin := rest[:at] + string(c)
		return slices.ContainsFunc(words, func(word string) bool { return strings.HasPrefix(word, begin) })
	})
	n := slices.Index(words, said)
	if n < 0 {
		r.wrong(r.at + len(said))
	}
	r.take(said)
	return n
}

// rest tells what is not gone over yet.
func (r *reader) rest() string {
	return r.text[r.at:]
}

// take goes over s, which stands there.
func (r *reader) take(s string) {
	r.at += len(s)
	r.behind = r.at
}

// wrong leaves the line: what stands at the place may not.
func (r *reader) wrong(at int) {
	panic(fault{at, api.ErrLine})
}

// run tells how s begins, as long as may tells true of the runes and their places.
func run(s string, may func(at int, c rune) bool) string {
	for at, c := range s {
		if !may(at, c) {
			return s[:at]
		}
	}
	return s
}

// head tells the first rune of s, or the wrong byte in its place; nothing, if s is empty.
func head(s string) string {
	return run(s, func(at int, _ rune) bool { return at == 0 })
}
