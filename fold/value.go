package fold

import (
	"strings"

	"cardex/api"
)

// Value is s as the value of a property.
func Value(s string) string {
	var b strings.Builder
	for _, c := range []byte(s) {
		switch c {
		case '\\', ',', ';':
			b.WriteByte('\\')
			b.WriteByte(c)
		case '\n':
			b.WriteString(`\n`)
		case '\r':
			// A value has no way to write it.
		default:
			b.WriteByte(c)
		}
	}
	return b.String()
}

// Plain is the text that s is the value of.
func Plain(s string) (string, api.Errno) {
	var b strings.Builder
	for {
		ahead, behind, found := strings.Cut(s, `\`)
		b.WriteString(ahead)
		if !found {
			return b.String(), api.OK
		}
		c, ok := meant(behind)
		if !ok {
			return "", api.ErrEscape
		}
		b.WriteByte(c)
		s = behind[1:]
	}
}

// meant is what a "\" makes of the first byte of what is behind it; the last result is false, if that is no escape.
func meant(behind string) (byte, bool) {
	if behind == "" {
		return 0, false
	}
	switch c := behind[0]; c {
	case '\\', ',', ';':
		return c, true
	case 'n', 'N':
		return '\n', true
	}
	return 0, false
}

// Split tells what stands between the seps of s that are not escaped.
func Split(s string, sep byte) []string {
	escaped := false
	gathered := gather([]byte(s), func(c byte) bool {
		begins := c == sep && !escaped
		escaped = c == '\\' && !escaped
		return begins
	})
	var l []string
	for i, part := range gathered {
		// All but the first one begin with their sep.
		if i > 0 {
			part = part[1:]
		}
		l = append(l, string(part))
	}
	return l
}
