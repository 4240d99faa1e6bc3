package prep

import (
	"strings"
	"testing"
	"unicode/utf8"

	"cardex/api"
)

// call is one of the three calls, with what P6.1 says of it.
type call struct {
	name string
	does func(s string) (string, api.Errno)
	told func(s string) (string, api.Errno)
}

// calls tells all three.
func calls() []call {
	return []call{
		{"Node", Node, func(s string) (string, api.Errno) { return told(s, true, toldNode) }},
		{"Host", Host, func(s string) (string, api.Errno) { return told(s, true, toldHost) }},
		{"Resource", Resource, func(s string) (string, api.Errno) { return told(s, false, banned) }},
	}
}

// told answers s by the words of P6.1.
func told(s string, maps bool, wrong func(c rune) bool) (string, api.Errno) {
	if !text(s) {
		return "", api.ErrUtf
	}
	var b strings.Builder
	for _, c := range s {
		switch {
		case gone(c):
		case !maps:
			b.WriteRune(c)
		case c >= 65 && c <= 90, c >= 192 && c <= 214, c >= 216 && c <= 222:
			b.WriteRune(c + 32)
		case c == 223:
			b.WriteString("ss")
		default:
			b.WriteRune(c)
		}
	}
	name := b.String()
	if strings.ContainsFunc(name, wrong) {
		return "", api.ErrChar
	}
	if strings.ContainsFunc(name, rightLeft) {
		first, _ := utf8.DecodeRuneInString(name)
		last, _ := utf8.DecodeLastRuneInString(name)
		if !rightLeft(first) || !rightLeft(last) || strings.ContainsFunc(name, letter) {
			return "", api.ErrBidi
		}
	}
	return name, api.OK
}

// text tells whether s is one, by the words of P1.1.
func text(s string) bool {
	return utf8.ValidString(s) && !strings.ContainsFunc(s, func(c rune) bool {
		return c < 32 && c != 9 && c != 10 && c != 13 || c == 65_534 || c == 65_535
	})
}

func toldNode(c rune) bool {
	switch c {
	case 32, 34, 38, 39, 47, 58, 60, 62, 64:
		return true
	}
	return banned(c)
}

func toldHost(c rune) bool {
	return !(c >= 48 && c <= 57 || c == 45 || c == 46 || letter(c) || rightLeft(c))
}

// ends are the first and the last of a range.
type ends [2]rune

// among tells whether c is in one of l.
func among(c rune, l []ends) bool {
	for _, r := range l {
		if r[0] <= c && c <= r[1] {
			return true
		}
	}
	return false
}

// The tables as chapter 5 has them, written down a second time.
var (
	letters = []ends{{65, 90}, {97, 122}, {192, 214}, {216, 246}, {248, 591}, {880, 1_327}, {19_968, 40_959}}
	bans    = []ends{{0, 31}, {127, 160}, {5_760, 5_760}, {8_192, 8_202}, {8_232, 8_239}, {8_287, 8_287}, {12_288, 12_288}, {57_344, 63_743}, {65_533, 65_535}, {917_504, 917_631}, {983_040, 1_114_111}}
	lefts   = []ends{{1_424, 1_535}, {1_536, 1_791}, {64_285, 64_335}}
	gones   = []ends{{173, 173}, {847, 847}, {6_150, 6_150}, {8_203, 8_205}, {8_288, 8_288}, {65_024, 65_039}, {65_279, 65_279}}
)

func letter(c rune) bool    { return among(c, letters) }
func banned(c rune) bool    { return among(c, bans) }
func rightLeft(c rune) bool { return among(c, lefts) }
func gone(c rune) bool      { return among(c, gones) }

// hold holds all three calls against what is told of s, and what they keep against itself.
func hold(t *testing.T, s string) {
	t.Helper()
	for _, x := range calls() {
		got, err := x.does(s)
		want, wrong := x.told(s)
		if got != want || err != wrong {
			t.Fatalf("P6.1: %s(%q): %q, %d, not %q, %d", x.name, s, got, err, want, wrong)
		}
		if err != api.OK {
			continue
		}
		if again, err := x.does(got); again != got || err != api.OK {
			t.Fatalf("P6.1: %s(%q) is kept as %q, but that as %q, %d", x.name, s, got, again, err)
		}
	}
}

// Each character of the tables' neighbourhood, and some of each stretch above it: alone, between others of both ways, and at an end.
func TestEachCharacter(t *testing.T) {
	for c := rune(0); c <= utf8.MaxRune; c++ {
		if c > 66_000 && c%97 != 0 && !near(c) {
			continue
		}
		s := string(c) // 65,533 for what is no character
		for _, name := range []string{s, "a" + s + "B", "א" + s + "ב", "\u200b" + s, s + "א"} {
			hold(t, name)
		}
	}
}

// near tells whether a range of what is Banned begins or ends within two of c.
func near(c rune) bool {
	for _, r := range bans {
		for _, end := range r {
			if end-2 <= c && c <= end+2 {
				return true
			}
		}
	}
	return false
}

// All texts of up to four signs, of those that are told apart.
func TestShortTexts(t *testing.T) {
	signs := []string{"a", "A", "ß", "É", "×", "÷", "1", "-", " ", "@", "_", "\u00ad", "\ufeff", "א", "ם", "\u00a0", "\t", "\x00", "\xd7", "\x90", "中", "😀"}
	texts := []string{""}
	for range 4 {
		var longer []string
		for _, s := range texts {
			for _, sign := range signs {
				longer = append(longer, s+sign)
			}
		}
		texts = longer
		for _, s := range texts {
			hold(t, s)
		}
	}
}

// The ends of every range, and their neighbours, in twos.
func TestEndsInTwos(t *testing.T) {
	var edges []string
	for _, l := range [][]ends{letters, bans, lefts, gones, {{32, 64}, {215, 223}}} {
		for _, r := range l {
			for _, end := range r {
				for _, c := range []rune{end - 1, end, end + 1} {
					edges = append(edges, string(c))
				}
			}
		}
	}
	for _, a := range edges {
		for _, b := range edges {
			hold(t, a+b)
		}
	}
}
