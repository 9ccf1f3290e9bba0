package line

import (
	"yardarm/api"
	"yardarm/digit"
	"yardarm/level"
	"yardarm/names"
)

// teller puts a line into words.
type teller struct {
	words []string
	left  api.Line // what is not told yet
}

// tell goes over the whole line, of which nothing may be left then but its kind.
func (t *teller) tell() {
	kind := t.left.Kind
	t.must(kind >= 0 && kind < len(kinds))
	t.say(kinds[kind])
	through(kind, t)
	t.must(Same(t.left, api.Line{Kind: kind}))
}

func (t *teller) name() {
	t.must(len(t.left.Names) > 0)
	name := t.left.Names[0]
	t.must(names.Check(name) == api.OK)
	t.say(name)
	t.left.Names = t.left.Names[1:]
}

func (t *teller) level() {
	text, err := level.Text(t.left.Level)
	t.must(err == api.OK)
	t.say(text)
	t.left.Level = 0
}

func (t *teller) version() {
	t.must(len(t.left.Versions) > 0)
	v := t.left.Versions[0]
	if v == (api.Told{}) {
		t.say("-")
	} else {
		t.must(names.Check(v.Name) == api.OK && v.K > 0 && v.K <= api.MaxWrites)
		t.say(v.Name + "." + digit.Text(int64(v.K)))
	}
	t.left.Versions = t.left.Versions[1:]
}

func (t *teller) first() {
	if t.left.First {
		t.say("-")
	}
	t.left.First = false
}

func (t *teller) guarantees() {
	text, err := level.Words(t.left.Bits)
	t.must(err == api.OK)
	if text != "" {
		t.say(text)
	}
	t.left.Bits = 0
}

func (t *teller) repeat(most int, row ...func()) {
	for n := 0; len(t.left.Names) > 0; n++ {
		t.must(n < most)
		all(row...)
	}
}

func (t *teller) say(word string) {
	t.words = append(t.words, word)
}

// must leaves the line, if it may not be.
func (t *teller) must(may bool) {
	if !may {
		panic(fault{err: api.ErrLine})
	}
}
