// Package word has fields of words, rows of bits, and texts in words.
package word

import (
	"math/bits"

	"parclose/api"
)

const (
	wordBits  = 64
	wordBytes = 8
	byteBits  = 8
)

// ones is the greatest value of the field of that width at that place, and whether there is such a field.
func ones(at, width int) (uint64, bool) {
	// A difference and no sum: at is not negative there, so it cannot overflow.
	if at < 0 || width < 1 || width > wordBits-at {
		return 0, false
	}
	return ^uint64(0) >> (wordBits - width), true
}

// Get is the value of the field of width bits from bit at on.
func Get(w uint64, at, width int) (uint64, api.Errno) {
	most, ok := ones(at, width)
	if !ok {
		return 0, api.ErrArg
	}
	return w >> at & most, api.OK
}

// Put is w with the value v in the field of width bits from bit at on.
func Put(w uint64, at, width int, v uint64) (uint64, api.Errno) {
	most, ok := ones(at, width)
	if !ok || v > most {
		return 0, api.ErrArg
	}
	return w&^(most<<at) | v<<at, api.OK
}

// inside tells whether the row has a bit i.
func inside(l []uint64, i int) bool {
	return i >= 0 && i/wordBits < len(l)
}

// Has tells whether bit i of the row is 1.
func Has(l []uint64, i int) (bool, api.Errno) {
	if !inside(l, i) {
		return false, api.ErrArg
	}
	return l[i/wordBits]>>(i%wordBits)&1 == 1, api.OK
}

// With is a new row like l, but for its bit i, which is on.
func With(l []uint64, i int, on bool) ([]uint64, api.Errno) {
	if !inside(l, i) {
		return nil, api.ErrArg
	}
	row := make([]uint64, len(l))
	copy(row, l)
	bit := uint64(1) << (i % wordBits)
	if on {
		row[i/wordBits] |= bit
	} else {
		row[i/wordBits] &^= bit
	}
	return row, api.OK
}

// Lowest is the lowest bit below n that is 0, and whether there is one.
func Lowest(l []uint64, n int) (int, bool) {
	for k, w := range l {
		// Of a word without a 0 this is where the next word begins, so the search ends at n either way.
		i := wordBits*k + bits.TrailingZeros64(^w)
		if i >= n {
			return 0, false
		}
		if ^w != 0 {
			return i, true
		}
	}
	return 0, false
}

// Count is how many bits below n are 1.
func Count(l []uint64, n int) int {
	sum := 0
	for k, w := range l {
		left := n - wordBits*k
		if left <= 0 {
			break
		}
		if left < wordBits {
			w &= uint64(1)<<left - 1
		}
		sum += bits.OnesCount64(w)
	}
	return sum
}

// Pack is the text in words, byte by byte from the lowest on.
func Pack(s string) []uint64 {
	words := len(s) / wordBytes
	if len(s)%wordBytes > 0 {
		words++
	}
	l := make([]uint64, words)
	for k := range len(s) {
		l[k/wordBytes] |= uint64(s[k]) << (k % wordBytes * byteBits)
	}
	return l
}

// Text is the first n bytes of the words.
func Text(l []uint64, n int) (string, api.Errno) {
	if n < 0 || n > wordBytes*len(l) {
		return "", api.ErrArg
	}
	s := make([]byte, n)
	for k := range n {
		s[k] = byte(l[k/wordBytes] >> (k % wordBytes * byteBits))
	}
	return string(s), api.OK
}
