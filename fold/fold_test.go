package fold

import (
	"math/rand"
	"regexp"
	"slices"
	"strings"
	"testing"

	"cardex/api"
	"cardex/utf"
)

// rep is n times s.
func rep(s string, n int) string { return strings.Repeat(s, n) }

// sizeOf is how many bytes the character has that s begins with, by the words of P1.1 and P3.1; 1 of a byte that begins none.
func sizeOf(s string) int {
	size := 1
	switch b := s[0]; {
	case b >= 0xc0 && b < 0xe0:
		size = 2
	case b >= 0xe0 && b < 0xf0:
		size = 3
	case b >= 0xf0 && b < 0xf8:
		size = 4
	}
	if size == 1 || size > len(s) {
		return 1
	}
	c := int(s[0]) & (0x7f >> size)
	for _, b := range []byte(s[1:size]) {
		if b < 0x80 || b > 0xbf {
			return 1
		}
		c = c<<6 | int(b&0x3f)
	}
	least := []int{2: 0x80, 3: 0x800, 4: 0x10000}[size]
	if c < least || c >= 55_296 && c <= 57_343 || c > 1_114_111 {
		return 1
	}
	return size
}

// foldedAsTold is l in rows, by the words of P3.1.
func foldedAsTold(l []string) string {
	s := ""
	for _, line := range l {
		room := 75
		for line != "" {
			n := 0
			for n < len(line) && n+sizeOf(line[n:]) <= room {
				n += sizeOf(line[n:])
			}
			s, line = s+line[:n], line[n:]
			if line != "" {
				s, room = s+"\x0d\x0a\x20", 74
			}
		}
		s += "\x0d\x0a"
	}
	return s
}

var (
	rowsForm = regexp.MustCompile(`^([^\r\n]*\r\n)*$`)
	goOn     = regexp.MustCompile(`\r\n[ \t]`)
)

// unfoldedAsTold tells the lines of s, by the words of P3.1.
func unfoldedAsTold(s string) ([]string, api.Errno) {
	switch {
	case len(s) > 20_000:
		return nil, api.ErrBig
	case !utf.Valid(s):
		return nil, api.ErrUtf
	case !rowsForm.MatchString(s), strings.HasPrefix(s, " "), strings.HasPrefix(s, "\t"):
		return nil, api.ErrLine
	case s == "":
		return nil, api.OK
	}
	s = goOn.ReplaceAllString(s, "")
	return strings.Split(strings.TrimSuffix(s, "\r\n"), "\r\n"), api.OK
}

// foldIs holds Fold of l against what it should answer.
func foldIs(t *testing.T, want string, l ...string) {
	t.Helper()
	if got := Fold(l); got != want {
		t.Fatalf("P3.1: Fold(%q): %q; want %q", l, got, want)
	}
}

// unfoldIs holds Unfold of s against what it should answer.
func unfoldIs(t *testing.T, s string, err api.Errno, want ...string) {
	t.Helper()
	if got, e := Unfold(s); !slices.Equal(got, want) || e != err {
		t.Fatalf("P3.1: Unfold(%.300q): %.300q, %d; want %.300q, %d", s, got, e, want, err)
	}
}

// thereAndBack holds that l is folded as want, and unfolded again.
func thereAndBack(t *testing.T, want string, l ...string) {
	t.Helper()
	foldIs(t, want, l...)
	unfoldIs(t, want, api.OK, l...)
}

func TestOrdinaryLines(t *testing.T) {
	thereAndBack(t, "")
	thereAndBack(t, "\r\n", "")
	thereAndBack(t, "\r\n\r\n\r\n", "", "", "")
	thereAndBack(t, "a\r\n", "a")
	thereAndBack(t, "x\r\n\r\ny\r\n", "x", "", "y")
	thereAndBack(t, "BEGIN:VCARD\r\nVERSION:4.0\r\nFN:Zoë\r\nEND:VCARD\r\n", "BEGIN:VCARD", "VERSION:4.0", "FN:Zoë", "END:VCARD")
	thereAndBack(t, "a b\tc \r\nd\\,;:\"\r\n", "a b\tc ", "d\\,;:\"")
}

// Lines of no bytes, of just so many as fit in rows, and of one more.
func TestSizes(t *testing.T) {
	a, b, c := rep("a", 75), rep("b", 74), rep("c", 74)
	thereAndBack(t, "\r\n", "")
	thereAndBack(t, a[1:]+"\r\n", a[1:])
	thereAndBack(t, a+"\r\n", a)
	thereAndBack(t, a+"\r\n b\r\n", a+"b")
	thereAndBack(t, a+"\r\n "+b[1:]+"\r\n", a+b[1:])
	thereAndBack(t, a+"\r\n "+b+"\r\n", a+b)
	thereAndBack(t, a+"\r\n "+b+"\r\n c\r\n", a+b+"c")
	thereAndBack(t, a+"\r\n "+b+"\r\n "+c+"\r\n", a+b+c)
	thereAndBack(t, a+"\r\n "+b+"\r\n "+c+"\r\n d\r\n", a+b+c+"d")
	thereAndBack(t, "x\r\n"+a+"\r\n "+b+"\r\n c\r\n\r\n"+a+"\r\n", "x", a+b+"c", "", a)
	for n := range 500 {
		line := rep("0123456789", 50)[:n]
		thereAndBack(t, foldedAsTold([]string{line, line}), line, line)
		rows := strings.Split(strings.TrimSuffix(Fold([]string{line}), "\r\n"), "\r\n")
		for i, row := range rows {
			if len(row) > api.Line || len(row) < api.Line && i < len(rows)-1 {
				t.Fatalf("P3.1: row %d of %d of a line of %d bytes has %d", i, len(rows), n, len(row))
			}
		}
	}
}

// Characters of two, three and four bytes at the ends of the first and of the second row: whole in the one, or in the next.
func TestCharactersAtEnds(t *testing.T) {
	a, b := rep("a", 75), rep("b", 74)
	for _, c := range []string{"é", "€", "😀", "\u0080", "\u07ff", "\u0800", "\ud7ff", "\ue000", "\ufffd", "\U00010000", "\U0010ffff"} {
		n := len(c)
		thereAndBack(t, a[n:]+c+"\r\n", a[n:]+c)
		thereAndBack(t, a[n:]+c+"\r\n z\r\n", a[n:]+c+"z")
		for short := 1; short < n; short++ {
			thereAndBack(t, a[short:]+"\r\n "+c+"z\r\n", a[short:]+c+"z")
			thereAndBack(t, a+"\r\n "+b[short:]+"\r\n "+c+"z\r\n", a+b[short:]+c+"z")
		}
		thereAndBack(t, a+"\r\n "+c+"z\r\n", a+c+"z")
		thereAndBack(t, a+"\r\n "+b[n:]+c+"\r\n", a+b[n:]+c)
		thereAndBack(t, a+"\r\n "+b[n:]+c+"\r\n z\r\n", a+b[n:]+c+"z")
		thereAndBack(t, a+"\r\n "+b+"\r\n "+c+"z\r\n", a+b+c+"z")
		for ahead := range 5 {
			line := a[:ahead] + rep(c, 90)
			thereAndBack(t, foldedAsTold([]string{line}), line)
		}
	}
}

// 65,534 and 65,535 may not stand in a text, but are folded as the characters that they are.
func TestNumbersThatAreNoText(t *testing.T) {
	a, b := rep("a", 75), rep("b", 74)
	for _, c := range []string{"\ufffe", "\uffff"} {
		foldIs(t, a[3:]+c+"\r\n", a[3:]+c)
		foldIs(t, a[3:]+c+"\r\n z\r\n", a[3:]+c+"z")
		foldIs(t, a[2:]+"\r\n "+c+"\r\n", a[2:]+c)
		foldIs(t, a[1:]+"\r\n "+c+"\r\n", a[1:]+c)
		foldIs(t, a+"\r\n "+b[3:]+c+"\r\n", a+b[3:]+c)
		foldIs(t, a+"\r\n "+b[2:]+"\r\n "+c+"\r\n", a+b[2:]+c)
		foldIs(t, a+"\r\n "+b[1:]+"\r\n "+c+"\r\n", a+b[1:]+c)
		foldIs(t, rep(c, 25)+"\r\n "+rep(c, 24)+"\r\n "+c+"\r\n", rep(c, 50))
	}
}

// Bytes that begin no character are cut as single ones.
func TestBytesThatAreNone(t *testing.T) {
	a, b := rep("a", 75), rep("b", 74)
	for _, s := range []string{
		"\xff\xff\xff\xff", "\x80\x80\x80\x80", "\xc0\x80", "\xc1\xbf", "\xc3\xc3", "\xe2\x82\xe2\x82", "\xed\xa0\x80", "\xed\xbf\xbf",
		"\xe0\x80\x80", "\xe0\x9f\xbf", "\xf0\x9f\x98\xf0", "\xf0\x80\x80\x80", "\xf0\x8f\xbf\xbf", "\xf4\x90\x80\x80", "\xf5\x80\x80\x80", "\xf8\x88\x80\x80\x80",
	} {
		for fits := range len(s) + 1 {
			foldIs(t, strings.TrimSuffix(a[fits:]+s[:fits]+"\r\n "+s[fits:]+"\r\n", " \r\n"), a[fits:]+s)
			foldIs(t, strings.TrimSuffix(a+"\r\n "+b[fits:]+s[:fits]+"\r\n "+s[fits:]+"\r\n", " \r\n"), a+b[fits:]+s)
		}
	}
	// One that is cut at the line's end isn't put together with the next line.
	foldIs(t, a[2:]+"\xf0\x9f\r\n\x98\x80\r\n", a[2:]+"\xf0\x9f", "\x98\x80")
	// A whole character behind a byte that is none stays whole.
	foldIs(t, a[2:]+"\xe2\r\n \xe2\x82\xac\r\n", a[2:]+"\xe2\xe2\x82\xac")
	foldIs(t, a[2:]+"\xf0\xc3\r\n z\r\n", a[2:]+"\xf0\xc3z")
}

// Each character of up to three bytes, many of four, and each two bytes at the end of a row.
func TestEachCharacterAtAnEnd(t *testing.T) {
	ahead := rep("a", 73)
	for c := 1; c <= 0x10ffff; c++ {
		if c >= 55_296 && c <= 57_343 || c > 0x10100 && c%61 != 0 {
			continue
		}
		s := string(rune(c))
		want := ahead + s + "\r\n "
		if len(s) > 2 {
			want = ahead + "\r\n " + s
		}
		if got := Fold([]string{ahead + s + "éz"}); got != want+"éz\r\n" {
			t.Fatalf("P3.1: the character %d at a row's end: %q", c, got)
		}
	}
	for x := range 256 {
		for y := range 256 {
			for _, line := range []string{ahead + string([]byte{byte(x), byte(y)}) + "z", ahead + "a" + string([]byte{byte(x), byte(y)}) + "z"} {
				foldIs(t, foldedAsTold([]string{line}), line)
			}
		}
	}
}

// Signs have no meaning in a line that is folded.
func TestSignsInLines(t *testing.T) {
	a := rep("a", 75)
	thereAndBack(t, a+"\r\n  c\r\n", a+" c")
	thereAndBack(t, a+"\r\n \tc\r\n", a+"\tc")
	thereAndBack(t, a+"\r\n   \r\n", a+"  ")
	thereAndBack(t, "a"+rep(" ", 74)+"\r\n "+rep(" ", 74)+"\r\n  \r\n", "a"+rep(" ", 149))
	foldIs(t, " a\r\n\tb\r\n", " a", "\tb")
	foldIs(t, "a\r\nb\r\n", "a\r\nb")
	foldIs(t, a[1:]+"\r\r\n \n\r\n", a[1:]+"\r\n")
	foldIs(t, "\x00\x01\x1f\x7f\r\n", "\x00\x01\x1f\x7f")
}

// Rows that go on, with 32 and with 9, lose that one sign, and it alone.
func TestRowsThatGoOn(t *testing.T) {
	unfoldIs(t, "a\r\n b\r\n", api.OK, "ab")
	unfoldIs(t, "a\r\n\tb\r\n", api.OK, "ab")
	unfoldIs(t, "a\r\n b\r\n\tc\r\nd\r\n", api.OK, "abc", "d")
	unfoldIs(t, "a\r\nb\r\n c\r\nd\r\n\te\r\n f\r\n", api.OK, "a", "bc", "def")
	unfoldIs(t, "a\r\n  b\r\n", api.OK, "a b")
	unfoldIs(t, "a\r\n \tb\r\n", api.OK, "a\tb")
	unfoldIs(t, "a\r\n\t b\r\n", api.OK, "a b")
	unfoldIs(t, "a\r\n\t\tb\r\n", api.OK, "a\tb")
	unfoldIs(t, "a \r\n b\r\n", api.OK, "a b")
	unfoldIs(t, "a\r\n \r\n", api.OK, "a")
	unfoldIs(t, "a\r\n\t\r\n b\r\n", api.OK, "ab")
	unfoldIs(t, "\r\n \r\n", api.OK, "")
	unfoldIs(t, "\r\n a\r\n", api.OK, "a")
	unfoldIs(t, "a\r\n\r\n b\r\n", api.OK, "a", "b")
	unfoldIs(t, "a\r\n"+rep(" "+rep("b", 300)+"\r\n", 9), api.OK, "a"+rep("b", 2_700))
	unfoldIs(t, rep("c", 300)+"\r\n é\r\n", api.OK, rep("c", 300)+"é")
	for _, c := range []string{"\u00a0", "\u2003", "\u3000", "\u0085", "\u2028", "\ufeff", "\x7f", ".", "-", "\u0430"} {
		unfoldIs(t, "a\r\n"+c+"b\r\n", api.OK, "a", c+"b")
	}
}

// A first row that goes on has no line ahead.
func TestFirstRowThatGoesOn(t *testing.T) {
	for _, s := range []string{" ", "\t", " a", "\ta", "  ", " \t"} {
		unfoldIs(t, s+"\r\n", api.ErrLine)
		unfoldIs(t, s+"\r\nb\r\n", api.ErrLine)
		unfoldIs(t, s+"\r\n b\r\nc\r\n", api.ErrLine)
		unfoldIs(t, "b\r\n"+s+"\r\n", api.OK, "b"+s[1:])
	}
}

// Rows without their end, and 13 and 10 elsewhere.
func TestEnds(t *testing.T) {
	for _, s := range []string{
		"a", " ", "\r", "\n", "a\r", "a\n", "a\n\r", "\n\r", "a\r\nb", "a\r\n b", "a\r\n ", "a\r\nb\r", "a\r\nb\n", "a\r\n\r", "a\r\n\n",
		"a\nb\r\n", "a\rb\r\n", "\na\r\n", "\ra\r\n", "a\r\r\n", "a\n\r\n", "\r\r\n", "\n\r\n", "a\r\n\r\r\n", "a\r\n\n\r\n", "\r\r\n\n", "a\n\nb\r\n", "a\r\rb\r\n",
		"a\r\nb\nc\r\n", "a\r\nb\rc\r\n", "a\r\n \nb\r\n", "a\r\n\t\rb\r\n", "a\u0085", "a\u2028", "a\\r\\n",
	} {
		unfoldIs(t, s, api.ErrLine)
		unfoldIs(t, "x\r\n"+s, api.ErrLine)
	}
}

// More than MaxBytes bytes, and just so many.
func TestSizeOfRows(t *testing.T) {
	x := rep("x", api.MaxBytes)
	unfoldIs(t, x[2:]+"\r\n", api.OK, x[2:])
	unfoldIs(t, x[1:]+"\r\n", api.ErrBig)
	unfoldIs(t, x+"\r\n", api.ErrBig)
	unfoldIs(t, rep("é", 9_999)+"\r\n", api.OK, rep("é", 9_999))
	unfoldIs(t, rep("é", 9_999)+"a\r\n", api.ErrBig)
	unfoldIs(t, rep("\r\n", 10_000), api.OK, make([]string, 10_000)...)
	unfoldIs(t, rep("\r\n", 10_001), api.ErrBig)
	unfoldIs(t, "ab\r\n"+rep("\r\n ", 6_665)+"\r", api.ErrLine)
	unfoldIs(t, "a\r\n"+rep(" \r\n", 6_665)+"\r\n", api.OK, "a", "")
}

// Which error counts where several are there: ErrBig, then ErrUtf, then ErrLine.
func TestWhichErrorCounts(t *testing.T) {
	x := rep("x", api.MaxBytes)
	none := []string{"\xff", "\x80", "\xc0\x80", "\xe2\x82", "\xed\xa0\x80", "\xf4\x90\x80\x80", "\x00", "\x0b", "\x1f", "\ufffe", "\uffff"}
	for _, s := range none {
		for _, line := range []string{s, s + "\r\n", "a" + s + "b\r\n", " " + s, " " + s + "\r\n", s + "\n", "\n" + s + "\r\n", "\r" + s, "a\r\n" + s, "a\r\n " + s + "\r\n", "a\r" + s + "\n"} {
			unfoldIs(t, line, api.ErrUtf)
			unfoldIs(t, line+x, api.ErrBig)
			unfoldIs(t, x+line+"\r\n", api.ErrBig)
		}
	}
	for _, line := range []string{" a\r\nb\r\n", "a\nb", "a\r\n\nb", "aaa", "\r\r\r"} {
		unfoldIs(t, line, api.ErrLine)
		unfoldIs(t, line+x, api.ErrBig)
		unfoldIs(t, x+line, api.ErrBig)
	}
	unfoldIs(t, rep("\xff", api.MaxBytes), api.ErrUtf)
	unfoldIs(t, rep("\xff", api.MaxBytes+1), api.ErrBig)
	unfoldIs(t, rep("\n", api.MaxBytes), api.ErrLine)
	unfoldIs(t, rep("\n", api.MaxBytes+1), api.ErrBig)
}

// All rows of up to six pieces, held against the words of P3.1.
func TestRowsOfPieces(t *testing.T) {
	pieces := []string{"a", " ", "\t", "\r", "\n", "\r\n", "é", "\xff"}
	l := []string{""}
	for range 6 {
		var longer []string
		for _, s := range l {
			for _, p := range pieces {
				longer = append(longer, s+p)
			}
		}
		l = longer
		for _, s := range l {
			want, err := unfoldedAsTold(s)
			unfoldIs(t, s, err, want...)
		}
	}
}

// Lines of many kinds, held against the words of P3.1; what is folded is unfolded, if its lines are texts without 13 and 10 that do not begin as rows do that go on.
func TestFoldedIsUnfolded(t *testing.T) {
	chance := rand.New(rand.NewSource(3))
	pieces := []string{"a", "b", " ", "\t", ",", "\\", "é", "\u07ff", "€", "\ufffd", "😀", "\U0010ffff"}
	none := []string{"\xff", "\xe2\x82", "\xf0\x9f\x98", "\xed\xa0\x80", "\uffff", "\ufffe", "\x00", "\x80"}
	for range 5_000 {
		var l, loose []string
		for range chance.Intn(6) {
			line := "x"
			for range chance.Intn(200) {
				line += pieces[chance.Intn(len(pieces))]
			}
			if chance.Intn(5) == 0 {
				line = ""
			}
			l = append(l, line)
			for range chance.Intn(60) {
				at := chance.Intn(len(line) + 1)
				line = line[:at] + none[chance.Intn(len(none))] + line[at:]
			}
			loose = append(loose, line)
		}
		thereAndBack(t, foldedAsTold(l), l...)
		foldIs(t, foldedAsTold(loose), loose...)
	}
}

// R3: the lines that are handed in, with the room behind their end, stay as they are, and what is handed out is new each time.
func TestListsAreNew(t *testing.T) {
	kept := []string{"a", "b", rep("c", 90), "d", "e"}
	l := slices.Clone(kept)
	foldIs(t, "b\r\n"+rep("c", 75)+"\r\n "+rep("c", 15)+"\r\n", l[1:3]...)
	if !slices.Equal(l, kept) {
		t.Errorf("R3: Fold changed the lines: %q", l)
	}
	s := "a\r\n b\r\nc\r\n"
	one, _ := Unfold(s)
	two, _ := Unfold(s)
	one[0], one[1] = "x", "y"
	_ = append(one[:1], "z")
	if !slices.Equal(two, []string{"ab", "c"}) {
		t.Errorf("R3: who writes into the lines changes others: %q", two)
	}
	unfoldIs(t, s, api.OK, "ab", "c")
}

// A line that is far longer than any input that is read.
func TestLongLine(t *testing.T) {
	foldIs(t, rep("a", 75)+"\r\n "+strings.TrimSuffix(rep(rep("a", 74)+"\r\n ", 9_999), " "), rep("a", 75+9_999*74))
	foldIs(t, strings.TrimSuffix(rep("€", 25)+"\r\n "+rep(rep("€", 24)+"\r\n ", 9_999), " "), rep("€", 25+9_999*24))
	foldIs(t, rep("\r\n", 100_000), make([]string, 100_000)...)
}
