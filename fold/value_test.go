package fold

import (
	"math/rand"
	"slices"
	"strings"
	"testing"

	"cardex/api"
)

// written are the signs that Value turns, and what P3.2 says that they are.
var written = []struct{ sign, value string }{
	{"\x5c", "\x5c\x5c"}, {",", "\x5c,"}, {";", "\x5c;"}, {"\x0a", "\x5cn"}, {"\x0d", ""},
}

// valueAsTold is the value of s, by the words of P3.2.
func valueAsTold(s string) string {
	value := ""
	for i := range len(s) {
		c := s[i : i+1]
		at := slices.IndexFunc(written, func(w struct{ sign, value string }) bool { return w.sign == c })
		if at >= 0 {
			c = written[at].value
		}
		value += c
	}
	return value
}

// plainAsTold is s as plain text, by the words of P3.2.
func plainAsTold(s string) (string, api.Errno) {
	plain := ""
	for i := 0; i < len(s); i++ {
		if s[i] != '\\' {
			plain += s[i : i+1]
			continue
		}
		i++
		switch {
		case i == len(s):
			return "", api.ErrEscape
		case strings.Contains(`\,;`, s[i:i+1]):
			plain += s[i : i+1]
		case strings.Contains("nN", s[i:i+1]):
			plain += "\x0a"
		default:
			return "", api.ErrEscape
		}
	}
	return plain, api.OK
}

// splitAsTold tells what is between the seps of s, by the words of P3.2: at each that has an even number of "\" ahead, as each second one of these counts as none.
func splitAsTold(s string, sep byte) []string {
	l, from := []string{}, 0
	for i := range len(s) {
		ahead := len(s[:i]) - len(strings.TrimRight(s[:i], `\`))
		if s[i] == sep && ahead%2 == 0 {
			l, from = append(l, s[from:i]), i+1
		}
	}
	return append(l, s[from:])
}

// valueIs holds Value of s against what it should answer.
func valueIs(t *testing.T, s, want string) {
	t.Helper()
	if got := Value(s); got != want {
		t.Fatalf("P3.2: Value(%q): %q; want %q", s, got, want)
	}
}

// plainIs holds Plain of s against what it should answer.
func plainIs(t *testing.T, s, want string, err api.Errno) {
	t.Helper()
	if got, e := Plain(s); got != want || e != err {
		t.Fatalf("P3.2: Plain(%q): %q, %d; want %q, %d", s, got, e, want, err)
	}
}

// splitIs holds Split of s against what it should answer.
func splitIs(t *testing.T, s string, sep byte, want ...string) {
	t.Helper()
	if got := Split(s, sep); !slices.Equal(got, want) {
		t.Fatalf("P3.2: Split(%q, %q): %q; want %q", s, sep, got, want)
	}
}

// valueAndPlain holds that s has the value want, and comes back.
func valueAndPlain(t *testing.T, s, want string) {
	t.Helper()
	valueIs(t, s, want)
	plainIs(t, want, s, api.OK)
}

// rowsOfPieces are all rows of up to most of the pieces.
func rowsOfPieces(most int, pieces ...string) []string {
	all, l := []string{""}, []string{""}
	for range most {
		var longer []string
		for _, s := range l {
			for _, p := range pieces {
				longer = append(longer, s+p)
			}
		}
		all, l = append(all, longer...), longer
	}
	return all
}

func TestOrdinaryValues(t *testing.T) {
	valueAndPlain(t, "", "")
	valueAndPlain(t, "ab", "ab")
	valueAndPlain(t, "a,b", `a\,b`)
	valueAndPlain(t, "a;b", `a\;b`)
	valueAndPlain(t, `a\b`, `a\\b`)
	valueAndPlain(t, "a\nb", `a\nb`)
	valueAndPlain(t, "\\,;\n", `\\\,\;\n`)
	valueAndPlain(t, ",,;;", `\,\,\;\;`)
	valueAndPlain(t, "Note: \"x\" 'y' (z)\t=1", "Note: \"x\" 'y' (z)\t=1")
	valueAndPlain(t, "n\\n", `n\\n`)
	valueAndPlain(t, `\n`, `\\n`)
	valueAndPlain(t, `\,`, `\\\,`)
	valueAndPlain(t, "é,€;😀\n\ufffd", `é\,€\;😀\n`+"\ufffd")
	valueAndPlain(t, "\n\n", `\n\n`)
}

// 13 is left out, wherever it stands.
func TestLeftOut(t *testing.T) {
	valueIs(t, "\r", "")
	valueIs(t, "\r\r", "")
	valueIs(t, "a\rb", "ab")
	valueIs(t, "a\r\nb\r", `a\nb`)
	valueIs(t, "\n\r", `\n`)
	valueIs(t, "\\\rn", `\\n`)
	valueIs(t, "\r,\r;", `\,\;`)
}

// Each byte, alone and behind each other, is turned as told, be it text or not.
func TestEachByteInValues(t *testing.T) {
	for a := range 256 {
		for b := range 256 {
			s := string([]byte{byte(a), byte(b)})
			valueIs(t, s[:1], valueAsTold(s[:1]))
			valueIs(t, s, valueAsTold(s))
			want, err := plainAsTold(s)
			plainIs(t, s, want, err)
			want, err = plainAsTold("\\" + s)
			plainIs(t, "\\"+s, want, err)
		}
	}
}

// Each escape that is taken back, in capitals or not, and once only.
func TestTakenBack(t *testing.T) {
	for _, r := range []struct{ s, want string }{
		{`\\`, `\`}, {`\,`, ","}, {`\;`, ";"}, {`\n`, "\n"}, {`\N`, "\n"},
	} {
		plainIs(t, r.s, r.want, api.OK)
		plainIs(t, r.s+r.s, r.want+r.want, api.OK)
		plainIs(t, "a"+r.s+"b", "a"+r.want+"b", api.OK)
		plainIs(t, "é"+r.s+"n", "é"+r.want+"n", api.OK)
		plainIs(t, `\\`+r.s, `\`+r.want, api.OK)
	}
	for _, c := range []string{",", ";", "n", "N"} {
		plainIs(t, `\\`+c, `\`+c, api.OK)
		plainIs(t, `\\\\`+c, `\\`+c, api.OK)
	}
	plainIs(t, `\\n`, `\n`, api.OK)
	plainIs(t, `\\\n`, "\\\n", api.OK)
	plainIs(t, `\\\\n`, `\\n`, api.OK)
	plainIs(t, `\\N\N\\N`, "\\N\n\\N", api.OK)
}

// What no "\" is ahead of stays as it is.
func TestWhatStays(t *testing.T) {
	for _, s := range []string{"", "a", ",", ";", ",;,", "n", "N", "\n", "\r", "\r\n", "\t", ":", "\"", "/", "é😀", "\xff", "\xe2\x82", "\x00", "\uffff"} {
		plainIs(t, s, s, api.OK)
		plainIs(t, `\,`+s+`\n`, ","+s+"\n", api.OK)
	}
}

// "\" ahead of anything else, and at the end.
func TestNoEscapes(t *testing.T) {
	for _, s := range []string{`\:`, `\t`, `\r`, `\a`, `\0`, `\x`, `\ `, `\"`, `\'`, `\/`, `\.`, `\m`, `\o`, `\M`, `\O`, "\\\n", "\\\r", "\\\t", `\é`, `\😀`, "\\\xff", "\\\x00", "\\\xc3"} {
		for _, around := range []string{"", "a", "é", `\\`, `\,`, `\n`, "n", ",", "\n"} {
			plainIs(t, s, "", api.ErrEscape)
			plainIs(t, s+around, "", api.ErrEscape)
			plainIs(t, around+s, "", api.ErrEscape)
			plainIs(t, around+s+around, "", api.ErrEscape)
		}
	}
	for _, ahead := range []string{"", "a", "é", ",", "n", `\\`, `\\\\`, `\,`, `\n`, "a\n", "\xff"} {
		plainIs(t, ahead+`\`, "", api.ErrEscape)
	}
}

// A sep with no "\", one, two, three and four of them ahead.
func TestSeps(t *testing.T) {
	for _, sep := range []byte(";,:an.\n\x00\xff") {
		c := string([]byte{sep})
		splitIs(t, "x"+c+"y", sep, "x", "y")
		splitIs(t, `x\`+c+"y", sep, `x\`+c+"y")
		splitIs(t, `x\\`+c+"y", sep, `x\\`, "y")
		splitIs(t, `x\\\`+c+"y", sep, `x\\\`+c+"y")
		splitIs(t, `x\\\\`+c+"y", sep, `x\\\\`, "y")
		splitIs(t, `\`+c, sep, `\`+c)
		splitIs(t, `\\`+c, sep, `\\`, "")
		splitIs(t, `\x`+c+"y", sep, `\x`, "y")
		splitIs(t, `\\x`+c+"y", sep, `\\x`, "y")
		splitIs(t, c, sep, "", "")
		splitIs(t, c+c+c, sep, "", "", "", "")
		splitIs(t, `\`+c+c, sep, `\`+c, "")
		splitIs(t, c+`\`+c, sep, "", `\`+c)
		splitIs(t, c+`\`, sep, "", `\`)
		splitIs(t, c+`\\`+c, sep, "", `\\`, "")
		splitIs(t, "x"+c+"y"+c+"z", sep, "x", "y", "z")
	}
}

// No sep, no bytes, and other signs than the sep.
func TestNoSeps(t *testing.T) {
	splitIs(t, "", ';', "")
	splitIs(t, "", '\\', "")
	splitIs(t, "", 0, "")
	splitIs(t, "ab", ';', "ab")
	splitIs(t, "a,b", ';', "a,b")
	splitIs(t, "a;b", ',', "a;b")
	splitIs(t, `\`, ';', `\`)
	splitIs(t, `\\`, ';', `\\`)
	splitIs(t, "a\r\nb", ';', "a\r\nb")
	splitIs(t, "é😀\xff", ';', "é😀\xff")
	splitIs(t, "Public;John;Quinlan\\;Q;;", ';', "Public", "John", `Quinlan\;Q`, "", "")
}

// A sep that is a byte within a character, or "\" itself, is a sep as others are.
func TestOddSeps(t *testing.T) {
	splitIs(t, "aéb", 0xc3, "a", "\xa9b")
	splitIs(t, "aéb", 0xa9, "a\xc3", "b")
	splitIs(t, `a\éb`, 0xc3, `a\éb`)
	splitIs(t, `a\éb`, 0xa9, `a\`+"\xc3", "b")
	splitIs(t, `a\b`, '\\', "a", "b")
	splitIs(t, `a\\b`, '\\', "a", `\b`)
	splitIs(t, `a\\\b`, '\\', "a", `\`, "b")
	splitIs(t, `\`, '\\', "", "")
	splitIs(t, `\\`, '\\', "", `\`)
}

// All rows of up to six pieces, and others by chance, held against the words of P3.2.
func TestValuesOfPieces(t *testing.T) {
	l := rowsOfPieces(6, `\`, ",", ";", "n", "N", "\n", "\r", "é")
	chance := rand.New(rand.NewSource(4))
	for range 20_000 {
		b := make([]byte, chance.Intn(60))
		for i := range b {
			b[i] = "\\\\\\,;nNa\n\r\xc3\xa9\xff"[chance.Intn(13)]
		}
		l = append(l, string(b))
	}
	for _, s := range l {
		valueIs(t, s, valueAsTold(s))
		want, err := plainAsTold(s)
		plainIs(t, s, want, err)
		for _, sep := range []byte(`;,\n`) {
			splitIs(t, s, sep, splitAsTold(s, sep)...)
		}
	}
}

// What is made a value comes back, but for 13; and values with seps between are told apart again, as long as there's one.
func TestValuesComeBack(t *testing.T) {
	for _, s := range rowsOfPieces(5, `\`, ",", ";", "n", "N", "\n", "\r", "a", "é", "\xff") {
		plainIs(t, Value(s), strings.ReplaceAll(s, "\r", ""), api.OK)
		plainIs(t, Value(Value(s)), Value(s), api.OK)
	}
	texts := rowsOfPieces(2, `\`, ",", ";", "n", "\n", "a", "é")
	for _, sep := range []byte(",;") {
		for _, a := range texts {
			for _, b := range texts {
				c := string([]byte{sep})
				splitIs(t, Value(a), sep, Value(a))
				splitIs(t, Value(a)+c+Value(b)+c+Value(a), sep, Value(a), Value(b), Value(a))
			}
		}
	}
}

// A value in a folded line comes back with it.
func TestFoldedValues(t *testing.T) {
	for _, s := range []string{"", rep(",", 100), rep("\\", 100), rep("\n", 100), rep("€;", 100), rep("a b\n", 100)} {
		l, err := Unfold(Fold([]string{"NOTE:" + Value(s)}))
		if err != api.OK || len(l) != 1 {
			t.Fatalf("P3.1: Unfold of a folded value: %q, %d", l, err)
		}
		plainIs(t, strings.TrimPrefix(l[0], "NOTE:"), s, api.OK)
	}
}

// R3: what is handed out is new each time.
func TestPartsAreNew(t *testing.T) {
	one, two := Split("a;b;c", ';'), Split("a;b;c", ';')
	one[0] = "x"
	_ = append(one[:1], "y")
	if want := []string{"a", "b", "c"}; !slices.Equal(two, want) {
		t.Errorf("R3: who writes into the parts changes others: %q", two)
	}
	splitIs(t, "a;b;c", ';', "a", "b", "c")
}

// Long values end soon enough.
func TestLongValues(t *testing.T) {
	n := 20 * api.MaxBytes
	valueAndPlain(t, rep(",", n), rep(`\,`, n))
	valueAndPlain(t, rep("\\", n), rep(`\\`, n))
	plainIs(t, rep(`\n`, n)+`\`, "", api.ErrEscape)
	splitIs(t, rep(";", n), ';', make([]string, n+1)...)
	splitIs(t, rep(`\;`, n), ';', rep(`\;`, n))
}
