// Package digit is layer 1: whole numbers as texts, and sums and products that may not fit (doc/01-digit.md).
package digit

import (
	"strconv"
	"strings"

	"yardarm/api"
)

// Text tells the number's text.
func Text(n int64) string {
	return strconv.FormatInt(n, 10)
}

// Read tells the number whose text s is.
func Read(s string) (int64, api.Errno) {
	digits, sign := signed(s)
	if !looks(digits, sign(1) < 0) {
		return 0, api.ErrDigit
	}
	n := int64(0)
	for _, r := range digits {
		tens, fits := Mul(n, 10)
		if !fits {
			return 0, api.ErrRange
		}
		// The sign goes to each digit, not to the whole: -2^63 fits, and 2^63 does not.
		if n, fits = Add(tens, sign(int64(r-'0'))); !fits {
			return 0, api.ErrRange
		}
	}
	return n, api.OK
}

// Head cuts s behind the digits with which it begins, perhaps behind a -.
func Head(s string) (string, string) {
	digits, _ := signed(s)
	n := run(digits)
	if n == 0 {
		return "", s
	}
	end := len(s) - len(digits) + n
	return s[:end], s[end:]
}

// Add tells the sum, if it fits.
func Add(a, b int64) (int64, bool) {
	return widen(a).plus(widen(b)).narrow()
}

// Mul tells the product, if it fits.
func Mul(a, b int64) (int64, bool) {
	return times(a, b).narrow()
}

// Sum tells the sum of all, if it fits.
func Sum(l ...int64) (int64, api.Errno) {
	sum := wide{}
	for _, n := range l {
		sum = sum.plus(widen(n))
	}
	n, fits := sum.narrow()
	if !fits {
		return 0, api.ErrRange
	}
	return n, api.OK
}

// signed cuts a first - off s, and tells what it, or that there is none, makes of a number.
func signed(s string) (string, func(n int64) int64) {
	digits, below := strings.CutPrefix(s, "-")
	return digits, func(n int64) int64 {
		if below {
			return -n
		}
		return n
	}
}

// looks tells whether digits (behind a -, if below) look like a number.
func looks(digits string, below bool) bool {
	fine := false
check:
	for at, r := range digits {
		switch {
		case !isDigit(r), at == 0 && r == '0' && (below || len(digits) > 1):
			fine = false
			break check
		default:
			fine = true
		}
	}
	return fine
}

// run tells with how many digits s begins.
func run(s string) int {
	for at, r := range s {
		if !isDigit(r) {
			return at
		}
	}
	return len(s)
}

func isDigit(r rune) bool {
	return '0' <= r && r <= '9'
}
