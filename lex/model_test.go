package lex_test

import (
	"math/big"
	"math/rand"
	"regexp"
	"strings"
	"unicode/utf8"

	"yardarm/api"
)

// The model reads classes, a letter a rune: L letters, Z the nought, D the other digits, B blanks, N line feeds, S signs, H a #, O what may stand in remarks alone, X what may stand nowhere.
var (
	asGap    = regexp.MustCompile(`^B*(H[LZDBSHO]*)?`)
	asNought = regexp.MustCompile(`^Z[ZD]`)
	asToken  = regexp.MustCompile(`^(?:(L[LZD]*)|(Z|D[ZD]*)|(S)|(N))`)
)

// classes tells the class of each rune of s, and where each begins, and the last one ends.
func classes(s string) (string, []int) {
	var b strings.Builder
	var places []int
	for at := 0; at < len(s); {
		r, width := utf8.DecodeRuneInString(s[at:])
		b.WriteByte(class(r, width))
		places = append(places, at)
		at += width
	}
	return b.String(), append(places, len(s))
}

func class(r rune, width int) byte {
	switch {
	case r == utf8.RuneError && width == 1:
		return 'X'
	case strings.ContainsRune("_abcdefghijklmnopqrstuvwxyzABCDEFGHIJKLMNOPQRSTUVWXYZ", r), r > 127:
		return 'L'
	case r == '0':
		return 'Z'
	case strings.ContainsRune("123456789", r):
		return 'D'
	case r == ' ', r == '\t':
		return 'B'
	case r == '\n':
		return 'N'
	case r == '.', r == '-':
		return 'S'
	case r == '#':
		return 'H'
	case r < 32:
		return 'X'
	}
	return 'O'
}

// wantNext tells what Next must answer.
func wantNext(s string, at int) (api.Token, int, api.Errno) {
	if at < 0 || at > len(s) {
		return api.Token{}, 0, api.ErrArg
	}
	row, places := classes(s[at:])
	gap := asGap.FindStringSubmatchIndex(row)
	n := gap[1]
	begin := at + places[n]
	rest := row[n:]
	switch {
	case gap[2] >= 0 && strings.HasPrefix(rest, "X"):
		return api.Token{}, begin, api.ErrLex
	case rest == "":
		return api.Token{Kind: api.TkStop, At: begin}, begin, api.OK
	case asNought.MatchString(rest):
		return api.Token{}, begin + 1, api.ErrLex
	}
	found := asToken.FindStringSubmatchIndex(rest)
	if found == nil {
		return api.Token{}, begin, api.ErrLex
	}
	token := api.Token{At: begin, Glued: n == 0 && at > 0 && !strings.ContainsAny(s[at-1:at], " \t\n")}
	for kind := 1; kind <= 4; kind++ {
		if found[2*kind] >= 0 {
			token.Kind = kind
		}
	}
	end := at + places[n+found[1]]
	token.Text = s[begin:end]
	switch {
	case token.Kind == api.TkWord && len(token.Text) > 24:
		return api.Token{}, begin + fits24(token.Text), api.ErrLex
	case token.Kind == api.TkNumber && big63(token.Text):
		return api.Token{}, begin, api.ErrBig
	case token.Kind == api.TkEnd:
		token.Glued = false
	}
	return token, end, api.OK
}

// fits24 tells the greatest number of bytes, up to 24, that cuts no rune of s.
func fits24(s string) int {
	n := 24
	for !utf8.RuneStart(s[n]) {
		n--
	}
	return n
}

// big63 tells whether the number is above 2^63 less 1.
func big63(digits string) bool {
	n, _ := new(big.Int).SetString(digits, 10)
	return !n.IsInt64()
}

// wantAll tells what All must answer.
func wantAll(s string) ([]api.Token, int, api.Errno) {
	var all []api.Token
	at := 0
	for {
		token, next, err := wantNext(s, at)
		if err != api.OK {
			return nil, next, err
		}
		if token.Kind == api.TkStop {
			return all, len(s), api.OK
		}
		all = append(all, token)
		at = next
	}
}

// pieces are what tokens are made of, and what goes wrong: the last rows are a rune that looks like a wrong byte, wrong bytes, and runes that may stand in remarks at most.
var pieces = []string{
	"a", "Z", "_", "é", "0", "7", ".", "-", "#", " ", "\t", "\n",
	"\uFFFD", "\xff", "$", "\x01", "\r",
}

// texts tells all texts of at most n pieces.
func texts(n int) []string {
	all := []string{""}
	for ahead := all; n > 0; n-- {
		var longer []string
		for _, s := range ahead {
			for _, p := range pieces {
				longer = append(longer, s+p)
			}
		}
		all, ahead = append(all, longer...), longer
	}
	return all
}

// longTexts tells n texts of many pieces, those at which words and numbers are too long among them.
func longTexts(n int) []string {
	r := rand.New(rand.NewSource(7))
	more := append([]string{
		"read", "T1", "2.99", "# x 07 \t$é", "#", "\n\n", "  ", "10", "99", "a-1", "-5", "9223372036854775807", "9223372036854775808",
		strings.Repeat("a", 23), strings.Repeat("é", 12), strings.Repeat("a", 24), strings.Repeat("日", 8),
		"😀", "\u0080", "\u0085", "\u00a0", "\u2028", "٣", "\x7f", "\xed\xa0\x80", "\xef\xbf", "\xf4\x90\x80\x80", "\xc0\x80", "\x00",
	}, pieces...)
	fine := []string{"a", "T1", "x", " ", " ", "\t", "\n", ".", "-", "0", "42", "é_9", " # so\n", "#\n"}
	all := make([]string, n)
	for i := range all {
		from := more
		if i%2 == 0 {
			from = fine
		}
		var b strings.Builder
		for range r.Intn(12) {
			b.WriteString(from[r.Intn(len(from))])
		}
		all[i] = b.String()
	}
	return all
}
