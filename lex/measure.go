package lex

import (
	"strings"
	"unicode/utf8"

	"yardarm/api"
	"yardarm/digit"
)

// run tells how many bytes of s goesOn lets go on; a wrong byte never does.
func run(s string, goesOn func(at int, r rune) bool) int {
	for at, r := range s {
		if isWrong(s[at:], r) || !goesOn(at, r) {
			return at
		}
	}
	return len(s)
}

// gap tells how many bytes of blanks, and of a remark, stand ahead of the first token of s; or the place of what may not be in the remark.
func gap(s string) (int, api.Errno) {
	remark := false
	n := run(s, func(_ int, r rune) bool {
		remark = remark || r == '#'
		return isBlank(r) || remark && r >= ' '
	})
	if remark && n < len(s) && s[n] != '\n' {
		return n, api.ErrLex
	}
	return n, api.OK
}

// measure tells the kind of the token with which s begins, and how many bytes it has; or the place of what goes wrong.
func measure(s string) (int, int, api.Errno) {
	if s == "" {
		return api.TkStop, 0, api.OK
	}
	switch first := rune(s[0]); {
	case first == '\n':
		return api.TkEnd, 1, api.OK
	case first == '.', first == '-':
		return api.TkSign, 1, api.OK
	case isDigit(first):
		n, err := number(s)
		return api.TkNumber, n, err
	}
	n, err := word(s)
	return api.TkWord, n, err
}

// number tells how many bytes the number has with which s begins; or the place of what goes wrong. A digit stands first.
func number(s string) (int, api.Errno) {
	digits, _ := digit.Head(s)
	switch _, err := digit.Read(digits); err {
	case api.OK:
		return len(digits), api.OK
	case api.ErrRange:
		return 0, api.ErrBig
	}
	// Digits that are no number's text have a nought ahead: the one behind it is too much.
	return 1, api.ErrLex
}

// word tells how many bytes the word has with which s begins; or the place of what goes wrong.
func word(s string) (int, api.Errno) {
	full := false
	n := run(s, func(at int, r rune) bool {
		if !isLetter(r) && (at == 0 || !isDigit(r)) {
			return false
		}
		full = at+utf8.RuneLen(r) > api.MaxName
		return !full
	})
	if n == 0 || full {
		return n, api.ErrLex
	}
	return n, api.OK
}

// isWrong tells whether r, with which s begins, stands for a byte that is no rune's.
func isWrong(s string, r rune) bool {
	return r == utf8.RuneError && !strings.HasPrefix(s, string(utf8.RuneError))
}

func isBlank(r rune) bool {
	return r == ' ' || r == '\t'
}

func isDigit(r rune) bool {
	return '0' <= r && r <= '9'
}

// isLetter tells whether r, which is no wrong byte, is a letter.
func isLetter(r rune) bool {
	return 'a' <= r && r <= 'z' || 'A' <= r && r <= 'Z' || r == '_' || r >= utf8.RuneSelf
}
