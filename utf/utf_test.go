package utf

import (
	"math"
	"slices"
	"strings"
	"testing"
)

// encode is the character c in size bytes, whether that is its shortest form or not, and whether there is such a character or not.
func encode(c, size int) string {
	if size == 1 {
		return string([]byte{byte(c)})
	}
	b := make([]byte, size)
	for i := size - 1; i > 0; i-- {
		b[i] = byte(128 | c&63)
		c >>= 6
	}
	b[0] = byte(0xff00>>size | c)
	return string(b)
}

// shortest is how many bytes the shortest form of c has.
func shortest(c int) int {
	switch {
	case c < 128:
		return 1
	case c < 2_048:
		return 2
	case c < 65_536:
		return 3
	}
	return 4
}

// may tells what P1.1 says of the character c.
func may(c int) bool {
	switch {
	case c == 9 || c == 10 || c == 13:
		return true
	case c < 32, c == 65_534, c == 65_535:
		return false
	}
	return c < 55_296 || c > 57_343 && c <= 1_114_111
}

// first reads the character that s begins with, and its size, by the words of P1.1; size 0: there is none.
func first(s string) (int, int) {
	size := 0
	switch b := s[0]; {
	case b < 128:
		size = 1
	case b >= 0xc0 && b < 0xe0:
		size = 2
	case b >= 0xe0 && b < 0xf0:
		size = 3
	case b >= 0xf0 && b < 0xf8:
		size = 4
	}
	if size == 0 || size > len(s) {
		return 0, 0
	}
	c := int(s[0])
	if size > 1 {
		c &= 0x7f >> size
	}
	for _, b := range []byte(s[1:size]) {
		if b&0xc0 != 0x80 {
			return 0, 0
		}
		c = c<<6 | int(b&63)
	}
	if shortest(c) != size || !may(c) {
		return 0, 0
	}
	return c, size
}

// read reads all of s by the words of P1.1.
func read(s string) ([]int, bool) {
	var l []int
	for len(s) > 0 {
		c, size := first(s)
		if size == 0 {
			return nil, false
		}
		l = append(l, c)
		s = s[size:]
	}
	return l, true
}

// hold holds all four calls against what they should answer of s.
func hold(t *testing.T, s string, want []int, valid bool) {
	t.Helper()
	n := len(want)
	if got := Valid(s); got != valid {
		t.Fatalf("P1.1: Valid(%q): %v", s, got)
	}
	if got := Runes(s); !slices.Equal(got, want) {
		t.Fatalf("P1.1: Runes(%q): %v, not %v", s, got, want)
	}
	if got := Count(s); got != n {
		t.Fatalf("P1.1: Count(%q): %d, not %d", s, got, n)
	}
	line := valid
	for _, c := range want {
		line = line && c >= 32
	}
	for _, most := range []int{math.MinInt, -1, 0, n - 1, n, n + 1, math.MaxInt} {
		if got := Line(s, most); got != (line && n <= most) {
			t.Fatalf("P1.1: Line(%q, %d): %v", s, most, got)
		}
	}
}

func TestOrdinaryTexts(t *testing.T) {
	for _, r := range []struct {
		s    string
		want []int
	}{
		{"", nil},
		{"ab", []int{97, 98}},
		{"a b", []int{97, 32, 98}},
		{"one\ttwo\r\n", []int{111, 110, 101, 9, 116, 119, 111, 13, 10}},
		{"é", []int{233}},
		{"aé€😀", []int{97, 233, 8_364, 128_512}},
		{"😀€éa", []int{128_512, 8_364, 233, 97}},
		{"日本", []int{26_085, 26_412}},
		{"\x7f", []int{127}},
		{"\ufeffa", []int{65_279, 97}},
	} {
		hold(t, r.s, r.want, true)
	}
}

// Each number that four bytes can hold, in its shortest form: alone, and with other characters around it.
func TestEachCharacter(t *testing.T) {
	for c := 0; c < 1<<21; c++ {
		s := encode(c, shortest(c))
		want := []int{c}
		if !may(c) {
			want = nil
		}
		hold(t, s, want, may(c))
		if may(c) {
			hold(t, "a"+s+"é", []int{97, c, 233}, true)
		} else {
			hold(t, "a"+s+"é", nil, false)
		}
	}
}

func TestEdgesOfCharacters(t *testing.T) {
	for _, r := range []struct {
		c     int
		valid bool
	}{
		{0, false}, {8, false}, {9, true}, {10, true}, {11, false}, {12, false}, {13, true}, {14, false}, {31, false}, {32, true},
		{127, true}, {128, true}, {159, true}, {2_047, true}, {2_048, true},
		{55_295, true}, {55_296, false}, {56_319, false}, {56_320, false}, {57_343, false}, {57_344, true},
		{65_533, true}, {65_534, false}, {65_535, false}, {65_536, true}, {131_070, true}, {131_071, true},
		{1_114_110, true}, {1_114_111, true}, {1_114_112, false}, {2_097_151, false},
	} {
		want := []int{r.c}
		if !r.valid {
			want = nil
		}
		hold(t, encode(r.c, shortest(r.c)), want, r.valid)
	}
}

func TestNoShortestForm(t *testing.T) {
	for size := 2; size <= 4; size++ {
		for c := 0; shortest(c) < size; c++ {
			if s := encode(c, size); Valid(s) || Count(s) != 0 || len(Runes(s)) != 0 || Line(s, 9) {
				t.Fatalf("P1.1: %d in %d bytes: %q is no shortest form", c, size, s)
			}
		}
	}
	for _, s := range []string{"\xc0\x80", "\xc1\xbf", "\xe0\x80\x80", "\xe0\x9f\xbf", "\xf0\x80\x80\x80", "\xf0\x8f\xbf\xbf", "\xf8\x88\x80\x80\x80", "\xfc\x84\x80\x80\x80\x80"} {
		hold(t, s, nil, false)
		hold(t, "a"+s, nil, false)
		hold(t, s+"a", nil, false)
	}
}

func TestCutCharacters(t *testing.T) {
	for _, s := range []string{"é", "€", "\ufffd", "😀", "\U0010ffff"} {
		hold(t, s, Runes(s), len(Runes(s)) == 1)
		for cut := 1; cut < len(s); cut++ {
			for _, part := range []string{s[:cut], s[cut:]} {
				hold(t, part, nil, false)
				hold(t, "ab"+part, nil, false)
				hold(t, part+"ab", nil, false)
				hold(t, s+part, nil, false)
				hold(t, part+s, nil, false)
			}
		}
	}
}

// All rows of up to four bytes, of the bytes at which what is right changes.
func TestRowsOfBytes(t *testing.T) {
	edges := "\x00\x09\x0b\x1f\x20\x7f\x80\x8f\x90\x9f\xa0\xbd\xbe\xbf\xc0\xc1\xc2\xdf\xe0\xe1\xec\xed\xee\xef\xf0\xf1\xf3\xf4\xf5\xf7\xf8\xff"
	rows := []string{""}
	for range 4 {
		var longer []string
		for _, s := range rows {
			for i := range len(edges) {
				longer = append(longer, s+edges[i:i+1])
			}
		}
		rows = longer
		for _, s := range rows {
			want, valid := read(s)
			hold(t, s, want, valid)
		}
	}
}

func TestLine(t *testing.T) {
	for _, r := range []struct {
		s    string
		most int
		want bool
	}{
		{"", 0, true}, {"", 1, true}, {"", -1, false}, {"", math.MinInt, false},
		{"a", 0, false}, {"a", -1, false}, {"a", 1, true}, {"a", math.MaxInt, true},
		{strings.Repeat("a", 100), 100, true}, {strings.Repeat("a", 101), 100, false},
		{strings.Repeat("é", 100), 100, true}, {strings.Repeat("é", 101), 100, false},
		{strings.Repeat("😀", 100), 100, true}, {strings.Repeat("😀", 100) + "a", 100, false},
		{" ", 1, true}, {"\x7f", 1, true},
		{"\t", 9, false}, {"\n", 9, false}, {"\r", 9, false}, {"a\t", 9, false}, {"\na", 9, false}, {"a\rb", 9, false},
		{"\x1f", 9, false}, {"\x00", 9, false}, {"a\xff", 9, false}, {"\xe2\x82", 9, false}, {"\uffff", 9, false}, {"\ufffd", 9, true},
	} {
		if got := Line(r.s, r.most); got != r.want {
			t.Errorf("P1.1: Line(%q, %d): %v", r.s, r.most, got)
		}
	}
}

// What follows: parts that are texts are texts together, and have all their characters, in order.
func TestTextsBehindEachOther(t *testing.T) {
	parts := []string{"", "a", "\t", "\r\n", "é", "€", "😀", "\ufffd", "\ud7ff\ue000", "\U0010ffff", strings.Repeat("x€", 40)}
	for _, a := range parts {
		for _, b := range parts {
			want := slices.Concat(Runes(a), Runes(b))
			hold(t, a+b, want, Valid(a) && Valid(b))
			if Count(a+b) != Count(a)+Count(b) {
				t.Errorf("P1.1: Count(%q): %d", a+b, Count(a+b))
			}
			for _, none := range []string{"\xff", "\x00", "\uffff", "\xe2\x82"} {
				hold(t, a+none+b, nil, false)
			}
		}
	}
	all := strings.Join(parts, "")
	for at := range all { // at the beginning of each character
		if !Valid(all[:at]) || !Valid(all[at:]) || Count(all[:at])+Count(all[at:]) != Count(all) {
			t.Errorf("P1.1: a text that is cut between characters at %d", at)
		}
	}
}

// R3: what is handed out is new memory each time.
func TestRunesAreNew(t *testing.T) {
	a, b := Runes("abc"), Runes("abc")
	for i := range a {
		a[i] = 0
	}
	if want := []int{97, 98, 99}; !slices.Equal(b, want) || !slices.Equal(Runes("abc"), want) {
		t.Error("R3: who writes into the characters changes others")
	}
	_ = append(b[:1], 7)
	if !slices.Equal(Runes("abc"), []int{97, 98, 99}) {
		t.Error("R3: who writes behind the characters changes others")
	}
}
