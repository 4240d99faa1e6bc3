package prep

import (
	"unicode/utf8"

	"cardex/ranges"
)

// mapped is what l becomes: add puts, behind what is done so far, what the next one becomes, be it nothing, one, or more.
func mapped[T, U any](l []T, add func(done []U, next T) []U) []U {
	var done []U
	for _, next := range l {
		done = add(done, next)
	}
	return done
}

// lean adds as add does, but leaves out what is Gone.
func lean(add func(done []int, c int) []int) func(done []int, c int) []int {
	gone := within(ranges.Gone())
	return func(done []int, c int) []int {
		if gone(c) {
			return done
		}
		return add(done, c)
	}
}

// same adds c as it is.
func same(done []int, c int) []int {
	return append(done, c)
}

// small adds c as a name has it that knows no capitals: 223 has none of its own but SS, and so it is ss.
func small(done []int, c int) []int {
	switch {
	case c == 223:
		return append(done, 's', 's')
	case 65 <= c && c <= 90, 192 <= c && c <= 222 && c != 215:
		return append(done, c+32)
	}
	return append(done, c)
}

// encoded adds the bytes of c.
func encoded(done []byte, c int) []byte {
	return utf8.AppendRune(done, rune(c))
}
