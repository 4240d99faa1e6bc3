// Package utf is layer 1: see shared/doc/01-utf.md.
package utf

import (
	"unicode/utf8"
)

// blank is the lowest character that is no control sign.
const blank = 32

// span is a row of characters: how many there are, and how many of them are below the blank.
type span struct{ all, low int }

// Valid tells whether s is a row of characters that may stand in a text.
func Valid(s string) bool {
	_, text := walk(s, longer)
	return text
}

// Count tells how many characters s has: 0, unless s is Valid.
func Count(s string) int {
	row, _ := walk(s, longer)
	return row.all
}

// Line tells whether s is Valid, of at most most characters, and none of them below the blank.
func Line(s string, most int) bool {
	row, text := walk(s, longer)
	return text && row.low == 0 && row.all <= most
}

// Runes tells the characters of s: none, unless s is Valid.
func Runes(s string) []int {
	l, _ := walk(s, func(l []int, c rune) []int { return append(l, int(c)) })
	return l
}

// walk goes through the characters of s: add makes, of what is told so far and the next one, what is told now.
// The last result is false, and nothing is told, if s is not Valid.
func walk[T any](s string, add func(told T, c rune) T) (T, bool) {
	var told, nothing T
	for at := 0; at < len(s); {
		c, size := utf8.DecodeRuneInString(s[at:])
		// 65,533 is a character of its own: only its size tells it from bytes that are none.
		if c == utf8.RuneError && size == 1 || !allowed(c) {
			return nothing, false
		}
		told = add(told, c)
		at += size
	}
	return told, true
}

// allowed tells whether the character c may stand in a text.
func allowed(c rune) bool {
	switch c {
	case 9, 10, 13:
		return true
	case 65_534, 65_535:
		return false
	}
	return c >= blank
}

// longer is the row with c behind it.
func longer(row span, c rune) span {
	row.all++
	if c < blank {
		row.low++
	}
	return row
}
