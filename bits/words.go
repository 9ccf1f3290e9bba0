package bits

import (
	"iter"
	"math/bits"

	"yardarm/api"
)

// size is how many numbers a word tells of.
const size = 64

// may tells whether n may be in a set.
func may(n int) bool {
	return 0 <= n && n < api.MaxBits
}

// bit tells the word that has n alone, of those that its word tells of; n is not less than 0.
func bit(n int) uint64 {
	return 1 << (n % size)
}

// room tells how many words there are up to the one that tells of n; of -1 there are none.
func room(n int) int {
	return (n + size) / size
}

// words tells the words of b, and none if it may not be.
func words(b api.Bits) []uint64 {
	if Check(b) != api.OK {
		return nil
	}
	return b.Words
}

// word tells the word at a place; those behind the last one have nothing.
func word(row []uint64, at int) uint64 {
	if at >= len(row) {
		return 0
	}
	return row[at]
}

// widened tells the row anew, with n words at least.
func widened(row []uint64, n int) []uint64 {
	wide := make([]uint64, max(n, len(row)))
	copy(wide, row)
	return wide
}

// joined tells a row anew, each word of it joined of those of a and of b.
func joined(a, b []uint64, join func(x, y uint64) uint64) []uint64 {
	row := widened(a, len(b))
	for at, x := range row {
		row[at] = join(x, word(b, at))
	}
	return row
}

// cut tells the set whose words are in row, which nobody else has, without the room behind its last number.
func cut(row []uint64) api.Bits {
	n := len(row)
	for n > 0 && row[n-1] == 0 {
		n--
	}
	return api.Bits{Words: row[:n:n]}
}

// rising tells the numbers of the words from from on, which is not less than 0.
func rising(row []uint64, from int) iter.Seq[int] {
	return func(yield func(n int) bool) {
		// What is less than from is left out of the first word alone.
		ahead := bit(from) - 1
	search:
		for at := from / size; at < len(row); at++ {
			for left := row[at] &^ ahead; left != 0; left &= left - 1 {
				if !yield(size*at + bits.TrailingZeros64(left)) {
					break search
				}
			}
			ahead = 0
		}
	}
}
