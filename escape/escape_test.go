package escape

import (
	"fmt"
	"regexp"
	"slices"
	"strconv"
	"strings"
	"testing"

	"cardex/api"
	"cardex/utf"
)

// escapes are the eight signs, and what P2.1 says that they are.
var escapes = []struct{ sign, text string }{
	{"&", "&amp;"}, {"<", "&lt;"}, {">", "&gt;"}, {"\x22", "&quot;"}, {"'", "&apos;"},
	{"\x09", "&#9;"}, {"\x0a", "&#10;"}, {"\x0d", "&#13;"},
}

// may tells whether the character of that number may stand in a text.
func may(c int) bool {
	texts := []api.Range{{Low: 9, High: 10}, {Low: 13, High: 13}, {Low: 32, High: 55_295}, {Low: 57_344, High: 65_533}, {Low: 65_536, High: 1_114_111}}
	return slices.ContainsFunc(texts, func(r api.Range) bool { return r.Low <= c && c <= r.High })
}

// form is what may stand behind each "&" by the words of P2.1.
var form = regexp.MustCompile(`^&(?:(amp|lt|gt|quot|apos)|#([0-9]{1,7})|#x([0-9a-fA-F]{1,6}));`)

// read reads s by the words of P2.1.
func read(s string) (string, api.Errno) {
	if !utf.Valid(s) {
		return "", api.ErrUtf
	}
	names := map[string]int{"amp": 38, "lt": 60, "gt": 62, "quot": 34, "apos": 39}
	told := ""
	for s != "" {
		if s[0] != '&' && s[0] != '<' {
			told, s = told+s[:1], s[1:]
			continue
		}
		m := form.FindStringSubmatch(s)
		if m == nil {
			return "", api.ErrToken
		}
		c := names[m[1]]
		if m[2] != "" {
			c, _ = strconv.Atoi(m[2])
		}
		if m[3] != "" {
			n, _ := strconv.ParseInt(m[3], 16, 64)
			c = int(n)
		}
		if !may(c) {
			return "", api.ErrToken
		}
		told, s = told+string(rune(c)), s[len(m[0]):]
	}
	return told, api.OK
}

// back holds Back of s against what it should answer.
func back(t *testing.T, s, want string, err api.Errno) {
	t.Helper()
	if got, e := Back(s); got != want || e != err {
		t.Fatalf("P2.1: Back(%q): %q, %d; want %q, %d", s, got, e, want, err)
	}
}

// refused holds that Back lets s neither alone nor with what it lets around it.
func refused(t *testing.T, s string, err api.Errno) {
	t.Helper()
	for _, around := range []string{"", "a", "é", "&lt;", "&#65;"} {
		back(t, s+around, "", err)
		back(t, around+s, "", err)
		back(t, around+s+around, "", err)
	}
}

// there holds that s is escaped as want, and comes back.
func there(t *testing.T, s, want string) {
	t.Helper()
	if got := Text(s); got != want {
		t.Fatalf("P2.1: Text(%q): %q; want %q", s, got, want)
	}
	back(t, want, s, api.OK)
}

func TestOrdinaryTexts(t *testing.T) {
	for _, r := range []struct{ s, want string }{
		{"", ""},
		{"ab", "ab"},
		{"a<b", "a&lt;b"},
		{"a b;c#d", "a b;c#d"},
		{"Tom & 'Jerry' <t&j@example.org>", "Tom &amp; &apos;Jerry&apos; &lt;t&amp;j@example.org&gt;"},
		{"say \"hi\"", "say &quot;hi&quot;"},
		{"one\ttwo\r\n", "one&#9;two&#13;&#10;"},
		{"&amp;", "&amp;amp;"},
		{"&#9;", "&amp;#9;"},
		{"&&<<", "&amp;&amp;&lt;&lt;"},
		{"é€😀\ufffd", "é€😀\ufffd"},
		{"é<€>😀", "é&lt;€&gt;😀"},
		{"\u0085\u2028\ufeff\x7f", "\u0085\u2028\ufeff\x7f"},
	} {
		there(t, r.s, r.want)
	}
}

// Each of the eight signs, by itself and among others.
func TestSigns(t *testing.T) {
	for _, r := range escapes {
		there(t, r.sign, r.text)
		there(t, "a"+r.sign+"b", "a"+r.text+"b")
		there(t, "é"+r.sign+"😀", "é"+r.text+"😀")
		there(t, "amp;"+r.sign+"amp;", "amp;"+r.text+"amp;")
		for _, q := range escapes {
			there(t, r.sign+q.sign, r.text+q.text)
			there(t, "x"+r.sign+"y"+q.sign+r.sign+"z", "x"+r.text+"y"+q.text+r.text+"z")
		}
	}
}

// Each byte, alone and behind each other: the eight signs are escaped, and nothing else, be it text or not.
func TestEachByte(t *testing.T) {
	want := make([]string, 256)
	for c := range want {
		want[c] = string([]byte{byte(c)})
	}
	for _, r := range escapes {
		want[r.sign[0]] = r.text
	}
	for a := range want {
		if got := Text(string([]byte{byte(a)})); got != want[a] {
			t.Fatalf("P2.1: Text of the byte %d: %q", a, got)
		}
		for b := range want {
			if got := Text(string([]byte{byte(a), byte(b)})); got != want[a]+want[b] {
				t.Fatalf("P2.1: Text of the bytes %d, %d: %q", a, b, got)
			}
		}
	}
}

// What needs no escape in what comes back stays as it is.
func TestWhatStays(t *testing.T) {
	for _, s := range []string{"", ">", "\"", "'", "\t", "\n", "\r", " ", ";", "#", "a;", "amp;", "#65;", "x41;", "]]>", "é€😀", "\ufffd", "\U0010ffff"} {
		back(t, s, s, api.OK)
		back(t, "&lt;"+s+"&lt;", "<"+s+"<", api.OK)
	}
}

// Each of the five names back, and once only.
func TestNames(t *testing.T) {
	for _, r := range escapes[:5] {
		back(t, r.text, r.sign, api.OK)
		back(t, "a"+r.text+";b", "a"+r.sign+";b", api.OK)
		back(t, "&amp;"+r.text[1:], r.text, api.OK)
		back(t, r.text+r.text, r.sign+r.sign, api.OK)
	}
}

// Names that are none of the five, or are not ended.
func TestNoNames(t *testing.T) {
	for _, s := range []string{
		"&;", "&&;", "& ;", "&nbsp;", "&copy;", "&LT;", "&Lt;", "&AMP;", "&Amp;", "&QUOT;", "&aPos;", "&am;", "&ampp;", "&l;", "&ltt;", "&quo;", "&a;",
		"& amp;", "&amp ;", "&\tlt;", "&lt\n;", "&&amp;", "&&#65;", "&lt&gt;", "&amp<;", "&amp:;", "&amplt;",
		"&é;", "&😀;", "&;amp;", "&-;", "&10;", "&x41;", "&65;", "&38;", "&<;", "&>;", "&';", "&\";", "&\t;",
	} {
		refused(t, s, api.ErrToken)
	}
	for _, s := range []string{"&", "&a", "&amp", "&lt", "&gt", "&quot", "&apos", "&#", "&#6", "&#65", "&#x", "&#x4", "&#x41", "&nbsp", "& ", "a&"} {
		for _, around := range []string{"", "a", "é", "&lt;", "&#65;"} {
			back(t, s, "", api.ErrToken)
			back(t, around+s, "", api.ErrToken)
			back(t, s+" "+around, "", api.ErrToken)
		}
	}
}

func TestLess(t *testing.T) {
	for _, s := range []string{"<", "<<", "a<b", "<a/>", "</a>", "<;", "a<;", "<amp;", "<#65;", "<lt;", ";<;", "<!-- a -->"} {
		refused(t, s, api.ErrToken)
	}
}

// writings are all ways to write the number c that P2.1 lets: in tens and in sixteens, with noughts ahead.
func writings(c int) []string {
	var l []string
	for n := 1; n <= 7; n++ {
		if s := fmt.Sprintf("%0*d", n, c); len(s) == n {
			l = append(l, "&#"+s+";")
		}
		if s := fmt.Sprintf("%0*x", n, c); len(s) == n && n <= 6 {
			l = append(l, "&#x"+s+";", "&#x"+strings.ToUpper(s)+";")
		}
	}
	return l
}

// Each number that can be written, in its shortest forms: as the character that it is, or refused.
func TestEachNumber(t *testing.T) {
	for c := 0; c < 1_200_000; c++ {
		want, err := "", api.ErrToken
		if may(c) {
			want, err = string(rune(c)), api.OK
		}
		back(t, fmt.Sprintf("&#%d;", c), want, err)
		back(t, fmt.Sprintf("&#x%x;", c), want, err)
	}
	for c := 1_200_000; c < 1<<24; c += 997 {
		back(t, fmt.Sprintf("&#%d;", c), "", api.ErrToken)
		back(t, fmt.Sprintf("&#x%x;", c), "", api.ErrToken)
	}
}

// Numbers of each length, with small and capital letters, and noughts ahead, among others.
func TestNumbers(t *testing.T) {
	for _, c := range []int{9, 10, 13, 32, 34, 38, 39, 48, 60, 62, 65, 74, 97, 106, 127, 128, 160, 171, 233, 255, 256, 999, 1_000, 2_047, 2_048, 4_095, 4_096,
		9_999, 10_000, 43_981, 55_295, 57_344, 65_533, 65_536, 99_999, 100_000, 128_512, 703_710, 999_999, 1_000_000, 1_048_575, 1_048_576, 1_114_111} {
		l := writings(c)
		if len(l) < 3 {
			t.Fatalf("P2.1: %d can be written", c)
		}
		for _, s := range l {
			want := string(rune(c))
			back(t, s, want, api.OK)
			back(t, "a"+s+";é", "a"+want+";é", api.OK)
			back(t, "0"+s+"0", "0"+want+"0", api.OK)
			back(t, s+"&lt;"+s, want+"<"+want, api.OK)
		}
	}
	for _, r := range []struct{ s, want string }{
		{"&#x6a;", "j"}, {"&#x6A;", "j"}, {"&#x4a;&#x4A;", "JJ"}, {"&#xaBc;", "\u0abc"}, {"&#xAbC;", "\u0abc"}, {"&#xabcde;", "\U000abcde"}, {"&#xFEDCB;", "\U000fedcb"},
		{"&#x10ffff;", "\U0010ffff"}, {"&#x10FFFF;", "\U0010ffff"}, {"&#1114111;", "\U0010ffff"},
		{"&#9;", "\t"}, {"&#0000009;", "\t"}, {"&#x9;", "\t"}, {"&#x000009;", "\t"}, {"&#xA;", "\n"}, {"&#xd;", "\r"}, {"&#0000065;", "A"}, {"&#x000041;", "A"},
	} {
		back(t, r.s, r.want, api.OK)
	}
}

// Numbers with a digit too much, with none, or with one that is none.
func TestNoNumbers(t *testing.T) {
	for _, s := range []string{
		"&#00000065;", "&#00000009;", "&#01114111;", "&#00000000;", "&#x0000041;", "&#x0000009;", "&#x010FFFF;", "&#11141110;", "&#x10FFFF0;",
		"&#" + strings.Repeat("0", 90) + "65;", "&#x" + strings.Repeat("0", 90) + "41;", "&#4294967361;", "&#18446744073709551681;", "&#x100000041;", "&#x10000000000000041;",
		"&#;", "&#x;", "&##65;", "&#x#41;", "&#xx41;", "&#x0x41;", "&#0x41;", "&#X41;", "&#X;", "&x41;",
		"&#-1;", "&#-65;", "&#+65;", "&#x+41;", "&#x-41;", "&#1_0;", "&#x4_1;", "&#_65;", "&#65_;", "&#6.5;", "&#65.;", "&#1e2;", "&#6,5;", "&#0b1000001;", "&#0o101;",
		"& #65;", "&# 65;", "&#65 ;", "&#6 5;", "&#x 41;", "&#x41 ;", "&#\t65;", "&#65\n;",
		"&#6G;", "&#6a;", "&#a;", "&#A;", "&#f;", "&#4A;", "&#x4g;", "&#x4G;", "&#xg;", "&#xG;", "&#xz;", "&#x4`;", "&#x4@;", "&#6/;", "&#6:;", "&#x4/;", "&#x4:;",
		"&#６５;", "&#x４１;", "&#٦٥;", "&#é;", "&#65&#65;", "&#65<;", "&#\"65\";",
	} {
		refused(t, s, api.ErrToken)
	}
}

// Numbers of characters that may not stand in a text, however they are written.
func TestNumbersOfNone(t *testing.T) {
	for _, c := range []int{0, 1, 7, 8, 11, 12, 14, 15, 16, 30, 31, 55_296, 55_297, 56_319, 56_320, 57_342, 57_343, 65_534, 65_535,
		1_114_112, 1_114_113, 1_179_648, 1_999_999, 2_097_151, 2_097_152, 4_194_304, 9_999_999, 16_777_215} {
		for _, s := range writings(c) {
			refused(t, s, api.ErrToken)
		}
	}
}

// Bytes that are no text count ahead of all that is wrong beside them.
func TestNoText(t *testing.T) {
	none := []string{"\xff", "\x80", "\xc0\x80", "\xe2\x82", "\xed\xa0\x80", "\xf4\x90\x80\x80", "\x00", "\x01", "\x08", "\x0b", "\x1f", "\uffff", "\ufffe"}
	beside := []string{"", "a", "é", "&amp;", "&#65;", "&", "&;", "&nbsp;", "&#0;", "&#xD800;", "&#99999999;", "<", "a<b", "&amp", "&#"}
	for _, s := range none {
		for _, x := range beside {
			back(t, s+x, "", api.ErrUtf)
			back(t, x+s, "", api.ErrUtf)
			back(t, x+s+";", "", api.ErrUtf)
			back(t, "&"+x+s+x+";", "", api.ErrUtf)
		}
		if got := Text("<" + s + "<" + s); got != "&lt;"+s+"&lt;"+s {
			t.Errorf("P2.1: Text of what is no text: %q", got)
		}
		back(t, Text("<"+s), "", api.ErrUtf)
	}
}

// All rows of up to five pieces, held against the words of P2.1.
func TestRowsOfPieces(t *testing.T) {
	pieces := []string{"&", "#", "x", ";", "<", "amp", "apos", "#10", "0", "41", "7", "a", "F", "é", "\n", "\xff"}
	rows := []string{""}
	for range 5 {
		var longer []string
		for _, s := range rows {
			for _, p := range pieces {
				longer = append(longer, s+p)
			}
		}
		rows = longer
		for _, s := range rows {
			want, err := read(s)
			back(t, s, want, err)
		}
	}
}

// What follows: what is escaped comes back, each character and each row of them.
func TestThereAndBack(t *testing.T) {
	for c := range 0x110000 {
		if may(c) {
			s := string(rune(c))
			for _, s := range []string{s, "&" + s + ";", "&#" + s + "<"} {
				back(t, Text(s), s, api.OK)
			}
		}
	}
	parts := []string{"", "a", "&", "<", ">", "'", "\"", "\t", "\r\n", "&amp;", "&lt", "#9;", ";", "&#9;", "&#x41;", "é", "😀", strings.Repeat("&<€", 90)}
	for _, a := range parts {
		for _, b := range parts {
			back(t, Text(a+b), a+b, api.OK)
			back(t, Text(Text(a+b)), Text(a+b), api.OK)
			if Text(a+b) != Text(a)+Text(b) {
				t.Errorf("P2.1: Text(%q): %q", a+b, Text(a+b))
			}
			if strings.ContainsAny(Text(a+b), "<>'\"\t\n\r") {
				t.Errorf("P2.1: Text(%q) has a sign left: %q", a+b, Text(a+b))
			}
		}
	}
}

// Long texts: many escapes, and escapes that are long, or never ended.
func TestLongTexts(t *testing.T) {
	n := 20 * api.MaxBytes
	there(t, strings.Repeat("&", n), strings.Repeat("&amp;", n))
	back(t, strings.Repeat("&#65;", n), strings.Repeat("A", n), api.OK)
	back(t, strings.Repeat("&", n), "", api.ErrToken)
	back(t, "&"+strings.Repeat("a", n)+";", "", api.ErrToken)
	back(t, "&#"+strings.Repeat("0", n)+";", "", api.ErrToken)
	back(t, strings.Repeat("&lt;", n)+"<", "", api.ErrToken)
}
