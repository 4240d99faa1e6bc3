package token

import (
	"reflect"
	"slices"
	"strconv"
	"strings"
	"testing"

	"cardex/api"
	"cardex/escape"
)

// first is the line that is passed over, as the chapter writes it.
const first = `<?xml version='1.0' encoding='UTF-8'?>`

// open, single, end and words are tokens at a place.
func open(at int, name string, attrs ...api.Attr) api.Token {
	return api.Token{Kind: api.Open, At: at, Name: name, Attrs: attrs}
}

func single(at int, name string, attrs ...api.Attr) api.Token {
	return api.Token{Kind: api.Open, At: at, Name: name, Attrs: attrs, Empty: true}
}

func end(at int, name string) api.Token { return api.Token{Kind: api.Close, At: at, Name: name} }

func words(at int, s string) api.Token { return api.Token{Kind: api.Text, At: at, Text: s} }

// attrs are attributes, each a name with its value behind it.
func attrs(l ...string) []api.Attr {
	var all []api.Attr
	for pair := range slices.Chunk(l, 2) {
		all = append(all, api.Attr{Name: pair[0], Value: pair[1]})
	}
	return all
}

// are holds that the tokens of s are these, alone and behind what may stand ahead of them.
func are(t *testing.T, s string, want ...api.Token) {
	t.Helper()
	for _, ahead := range []struct {
		s      string
		tokens []api.Token
	}{
		{"", nil},
		{first, nil},
		{"é</x>", []api.Token{words(0, "é"), end(2, "x")}},
		{first + "😀<x y='中' z=\"é\"/>", []api.Token{words(38, "😀"), single(42, "x", attrs("y", "中", "z", "é")...)}},
	} {
		all := slices.Clone(ahead.tokens)
		for _, token := range want {
			token.At += len(ahead.s)
			all = append(all, token)
		}
		got, at, err := Tokens(ahead.s + s)
		if !reflect.DeepEqual(got, all) || at != 0 || err != api.OK {
			t.Errorf("P8.1: Tokens(%q): %+v, %d, %d, not %+v", ahead.s+s, got, at, err, all)
		}
	}
}

// none holds that nothing is told of s but where it is wrong, and why.
func none(t *testing.T, s string, where int, wrong api.Errno) {
	t.Helper()
	if got, at, err := Tokens(s); got != nil || at != where || err != wrong {
		t.Errorf("P8.1: Tokens(%q): %+v, %d, %d, not the error %d at %d alone", s, got, at, err, wrong, where)
	}
}

// fails holds that none of l is a token, where it stands: at the beginning, and behind what may stand ahead of it.
func fails(t *testing.T, l ...string) {
	t.Helper()
	for _, s := range l {
		for _, ahead := range []string{"", first, "<a>", "</a>", "é<a/>", first + "中\n<a b='😀'>é</a><b/>"} {
			for _, behind := range []string{"", "<b/>", "x"} {
				if behind == "" || strings.HasSuffix(s, ">") {
					none(t, ahead+s+behind, len(ahead), api.ErrToken)
				}
			}
		}
	}
}

func TestOrdinary(t *testing.T) {
	are(t, "<a/>", single(0, "a"))
	are(t, "<a></a>", open(0, "a"), end(3, "a"))
	are(t, "<a>b</a>", open(0, "a"), words(3, "b"), end(4, "a"))
	are(t, "<a b='c'>", open(0, "a", attrs("b", "c")...))
	are(t, "<a b='c' d=\"e\"/>", single(0, "a", attrs("b", "c", "d", "e")...))
	are(t, "<query xmlns='jabber:iq:roster'>\n\t<item jid=\"romeo@example.net\" name='R &amp; J'>\n\t\t<group>Fri&#x65;nds</group></item></query>\n",
		open(0, "query", attrs("xmlns", "jabber:iq:roster")...), words(32, "\n\t"), open(34, "item", attrs("jid", "romeo@example.net", "name", "R & J")...),
		words(81, "\n\t\t"), open(84, "group"), words(91, "Friends"), end(103, "group"), end(111, "item"), end(118, "query"), words(126, "\n"))
}

// Whether what is opened is closed is not asked here.
func TestAnyOrder(t *testing.T) {
	are(t, "</a>", end(0, "a"))
	are(t, "</a></b><c>", end(0, "a"), end(4, "b"), open(8, "c"))
	are(t, "<a><b></a></b>", open(0, "a"), open(3, "b"), end(6, "a"), end(10, "b"))
	are(t, "<a/></a>", single(0, "a"), end(4, "a"))
	are(t, "<a/><a/>", single(0, "a"), single(4, "a"))
}

func TestNothingLeft(t *testing.T) {
	are(t, "")
}

func TestHowManyBytes(t *testing.T) {
	for _, most := range []string{strings.Repeat("a", 20_000), strings.Repeat("é", 10_000)} {
		got, at, err := Tokens(most)
		if len(got) != 1 || got[0].Text != most || at != 0 || err != api.OK {
			t.Errorf("P8.1: Tokens of MaxBytes bytes: %d tokens, %d, %d", len(got), at, err)
		}
	}
	none(t, strings.Repeat("a", 20_001), 0, api.ErrBig)
	none(t, strings.Repeat("\xff", 20_001), 0, api.ErrBig)
	none(t, strings.Repeat("<", 20_001), 0, api.ErrBig)
	none(t, strings.Repeat("\xff", 20_000), 0, api.ErrUtf)
	none(t, strings.Repeat("<", 20_000), 0, api.ErrToken)
	none(t, strings.Repeat("é", 10_000)+"a", 0, api.ErrBig)
	// The first line counts among the bytes.
	none(t, first+strings.Repeat("a", 19_963), 0, api.ErrBig)
	if got, _, err := Tokens(first + strings.Repeat("a", 19_962)); len(got) != 1 || err != api.OK {
		t.Errorf("P8.1: Tokens of MaxBytes bytes with the first line: %d tokens, %d", len(got), err)
	}
	for _, s := range []string{"<a/>", "</a>", "<a>b", "<a b='c'/>"} {
		n := 20_000 / len(s)
		l, _, err := Tokens(strings.Repeat(s, n))
		one, _, _ := Tokens(s)
		if len(l) != n*len(one) || err != api.OK {
			t.Errorf("P8.1: Tokens of %q, %d times: %d tokens, %d", s, n, len(l), err)
		}
	}
}

func TestNoText(t *testing.T) {
	for _, bad := range []string{"\xff", "\x80", "\xc3", "\xc0\xaf", "\xe2\x82", "\xf0\x9f\x98", "\xed\xa0\x80", "\xf4\x90\x80\x80", "\x00", "\x01", "\x08", "\x0b", "\x1f", "\xef\xbf\xbe", "\xef\xbf\xbf"} {
		for _, s := range []string{"_", "a_", "_a", "<_/>", "<a_/>", "<a _='b'/>", "<a b='_'/>", "<a b=_'c'/>", "<a>_</a>", "</a_>", "<a/>_", first + "_", "_" + first, "<_", "<<_", "&_", "<a/><b c='d' c='e'/>_"} {
			none(t, strings.ReplaceAll(s, "_", bad), 0, api.ErrUtf)
		}
	}
}

func TestTheFirstLine(t *testing.T) {
	if got, at, err := Tokens(first); got != nil || at != 0 || err != api.OK {
		t.Errorf("P8.1: Tokens of the first line alone: %+v, %d, %d", got, at, err)
	}
	if len(first) != 38 {
		t.Errorf("P8.1: the first line has %d bytes", len(first))
	}
	none(t, first+first, 38, api.ErrToken)
	none(t, first+"\n"+first, 39, api.ErrToken)
	for _, ahead := range []string{" ", "\n", "a", "é", "\ufeff", "<a/>", "</a>", "<a>b"} {
		none(t, ahead+first, len(ahead), api.ErrToken)
	}
	for i := 1; i < len(first); i++ {
		none(t, first[:i], 0, api.ErrToken)
		none(t, first[:i]+"<a/>", 0, api.ErrToken)
	}
	// One sign of it otherwise, away, or twice.
	for i := range first {
		for _, sign := range []string{"", "x", "X", " ", "\"", "'", "<", "é", first[i:i+1] + first[i:i+1], strings.ToUpper(first[i : i+1]), strings.ToLower(first[i : i+1])} {
			if s := first[:i] + sign + first[i+1:]; strings.HasPrefix(s, "<") && !strings.HasPrefix(s, first) {
				none(t, s+"<a/>", 0, api.ErrToken)
			}
		}
	}
	for _, s := range []string{"<?xml version=\"1.0\" encoding=\"UTF-8\"?>", "<?xml version='1.0' encoding='utf-8'?>", "<?xml version='1.1' encoding='UTF-8'?>", "<?xml version='1.0'?>", "<?xml version='1.0' encoding='UTF-8' ?>", "<?xml?>", "<??>", "<?a?>"} {
		fails(t, s)
	}
}

func TestClose(t *testing.T) {
	for _, blanks := range []string{"", " ", "\t", "\n", "\r", "  ", " \t\r\n ", "\r\n"} {
		are(t, "</a"+blanks+">", end(0, "a"))
		are(t, "</a_b.c-9"+blanks+">x", end(0, "a_b.c-9"), words(10+len(blanks), "x"))
		if blanks != "" {
			fails(t, "</"+blanks+"a>", "</"+blanks+">", "<"+blanks+"/a>", "</a"+blanks+"b>", "</a"+blanks+"/>", "</a"+blanks+"a='b'>")
		}
	}
	fails(t, "</>", "</", "<//a>", "</a/>", "</a b>", "</a b='c'>", "</a=>", "</a<", "</a<>", "</a<b>", "</a'>", "</a\">", "</a&amp;>", "</a\u0085>", "</a\u00a0>", "</a\u2028>", "</a:b>", "</é>", "</aé>", "</1>", "</->", "</.>", "<//>", "</?>", "</!>")
	for i := 1; i < len("</abc \n>"); i++ {
		fails(t, "</abc \n>"[:i], "</abc \n>"[:i]+"<b/>")
	}
}

func TestOpen(t *testing.T) {
	for _, blanks := range []string{"", " ", "\t", "\n", "\r", "  ", " \t\r\n ", "\r\n"} {
		are(t, "<a"+blanks+">", open(0, "a"))
		are(t, "<a"+blanks+"/>", single(0, "a"))
		are(t, "<a b='c'"+blanks+">", open(0, "a", attrs("b", "c")...))
		are(t, "<a b=\"c\""+blanks+"/>", single(0, "a", attrs("b", "c")...))
		are(t, "<a b"+blanks+"='c'/>", single(0, "a", attrs("b", "c")...))
		are(t, "<a b="+blanks+"'c'/>", single(0, "a", attrs("b", "c")...))
		are(t, "<a b"+blanks+"="+blanks+"\"c\">", open(0, "a", attrs("b", "c")...))
		are(t, "<a b='"+blanks+"'/>", single(0, "a", attrs("b", blanks)...))
		if blanks != "" {
			are(t, "<a"+blanks+"b='c'/>", single(0, "a", attrs("b", "c")...))
			are(t, "<a b='c'"+blanks+"d='e'"+blanks+">", open(0, "a", attrs("b", "c", "d", "e")...))
			fails(t, "<"+blanks+"a>", "<"+blanks+"a/>", "<a/"+blanks+">", "<a b='c'/"+blanks+">", "<a"+blanks+"b"+blanks+">", "<a"+blanks+"=>", "<a"+blanks+"='b'>", "<a"+blanks+"b"+blanks+"c='d'>")
		}
	}
	// One blank at least must stand ahead of an attribute.
	fails(t, "<ab='c'/>", "<a'b'/>", "<a b='c'd='e'/>", "<a b=\"c\"d='e'/>", "<a b='c'd='e'>", "<a b='c' d='e'f='g'>", "<a='b'>")
	fails(t, "<", "<>", "</>", "<<a>", "<a<", "<a<b>", "<a", "<a ", "<a/", "<a //>", "<a/x>", "<a/ >", "<a/b='c'>", "<a/b='c'/>", "<a / b='c'>", "<a /", "<a\u0085>", "<a\u00a0/>", "<a\u00a0b='c'/>", "<a\u2028b='c'/>", "<a\u3000>",
		"<a b>", "<a b/>", "<a b=>", "<a b=/>", "<a b=c>", "<a b=1/>", "<a b='c'x>", "<a b='c',d='e'>", "<a b='c'&gt;>", "<a b c='d'>", "<a 'b'>", "<a \"b\"='c'>", "<a b=='c'>", "<a b:'c'>", "<a b='c'=>", "<a b='c''d'>", "<a b='c'\"d\">", "<a b=''c''/>", "<a b = c = 'd'>",
		"<!-- a -->", "<!DOCTYPE a>", "<![CDATA[a]]>", "<?a?>", "<!>", "<->", "<->a>", "<.a/>", "<a:b/>", "<a b:c='d'/>", "<é/>", "<aé/>", "<a é='b'/>", "<a bé='c'/>")
	for i := 1; i < len("<ab c = 'd'\te=\"f\" /"); i++ {
		fails(t, "<ab c = 'd'\te=\"f\" /"[:i])
	}
	are(t, "<ab c = 'd'\te=\"f\" />", single(0, "ab", attrs("c", "d", "e", "f")...))
}

func TestNames(t *testing.T) {
	letters := "ABCDEFGHIJKLMNOPQRSTUVWXYZabcdefghijklmnopqrstuvwxyz_"
	all := letters + "0123456789-."
	for c := range 0x2000 {
		sign := string(rune(c))
		begins := c < 128 && c >= 32 && strings.Contains(letters, sign)
		within := c < 128 && c >= 32 && strings.Contains(all, sign)
		blank := c == 9 || c == 10 || c == 13 || c == 32
		if c < 32 && !blank || c >= 0xd800 {
			continue
		}
		if begins {
			are(t, "<"+sign+"/>", single(0, sign))
			are(t, "</"+sign+">", end(0, sign))
			are(t, "<a "+sign+"='b'/>", single(0, "a", attrs(sign, "b")...))
		} else if !blank && sign != "/" {
			fails(t, "<"+sign+">", "<"+sign+"a>", "</"+sign+"a>")
		}
		if !begins && !blank && sign != "/" && sign != ">" {
			fails(t, "<a "+sign+"b='c'>", "</"+sign+">")
		}
		if within {
			are(t, "<a"+sign+"/>", single(0, "a"+sign))
			are(t, "<_"+sign+"b>", open(0, "_"+sign+"b"))
			are(t, "</a"+sign+sign+">", end(0, "a"+sign+sign))
			are(t, "<a b"+sign+"='c'/>", single(0, "a", attrs("b"+sign, "c")...))
		} else if !blank && sign != "/" && sign != ">" {
			fails(t, "<a"+sign+">", "<a"+sign+"b>", "</a"+sign+">", "<a b"+sign+"c='d'>")
		}
	}
	for _, sign := range []string{"\ue000", "\ufb01", "ａ", "＿", "１", "\ufffd", "𝐚", "😀", "\U0010ffff"} {
		fails(t, "<"+sign+">", "<a"+sign+">", "</a"+sign+">", "<a "+sign+"='b'>", "<a b"+sign+"='c'>")
	}
	are(t, "<"+letters+all+"/>", single(0, letters+all))
	long := strings.Repeat("a-1.", 2_000)
	are(t, "<"+long+" "+long+"='b'>", open(0, long, attrs(long, "b")...))
	are(t, "</"+long+">", end(0, long))
}

func TestValues(t *testing.T) {
	for _, quote := range []string{"'", "\""} {
		other := "'"
		if quote == "'" {
			other = "\""
		}
		for _, value := range []string{"", " ", "b", "é中😀", ">", "/>", "=", ";", "#", "a>b", " \t\r\n ", other, other + other, "b" + other + "c", "x=" + other + "y" + other, "?>", "</", "]]>", "&"} {
			written := strings.ReplaceAll(strings.ReplaceAll(value, "&", "&amp;"), "<", "&lt;")
			are(t, "<a b="+quote+written+quote+"/>", single(0, "a", attrs("b", value)...))
			are(t, "<a b = "+quote+written+quote+" c='d'>", open(0, "a", attrs("b", value, "c", "d")...))
		}
		for _, s := range []string{"<", "&", "<b>", "x<", "<x", "x&", "&x", "&;", "&nbsp;", "&LT;", "&lt", "&#;", "&#x;", "&#0;", "&#8;", "&#55296;", "&#65534;", "&#1114112;", "&#12345678;", "&#X41;", "&#x1234567;", "&#-1;", "& lt;", "&amp;&", "&<amp;", "&lt;<"} {
			fails(t, "<a b="+quote+s+quote+">", "<a b="+quote+s+quote+"/>", "<a c='d' b="+quote+s+quote+" e='f'>")
		}
		// Without its end, or with a quote of its own kind within.
		fails(t, "<a b="+quote+"c", "<a b="+quote, "<a b="+quote+"c/>", "<a b="+quote+"c"+other+"/>", "<a b="+quote+"c"+quote+"d"+quote+"/>", "<a b="+quote+quote+quote+"/>", "<a b="+other+"c"+quote+"/>")
	}
	for _, r := range escapes() {
		are(t, "<a b='"+r.escaped+"'/>", single(0, "a", attrs("b", r.sign)...))
		are(t, "<a b=\"é"+r.escaped+"x"+r.escaped+"\"/>", single(0, "a", attrs("b", "é"+r.sign+"x"+r.sign)...))
	}
}

// escapes are the escapes of chapter 2, with what they stand for.
func escapes() []struct{ escaped, sign string } {
	return []struct{ escaped, sign string }{
		{"&amp;", "&"}, {"&lt;", "<"}, {"&gt;", ">"}, {"&quot;", "\""}, {"&apos;", "'"}, {"&#9;", "\t"}, {"&#10;", "\n"}, {"&#13;", "\r"},
		{"&#65;", "A"}, {"&#0000065;", "A"}, {"&#x41;", "A"}, {"&#x000041;", "A"}, {"&#xe9;", "é"}, {"&#xE9;", "é"}, {"&#128512;", "😀"}, {"&#x10ffff;", "\U0010ffff"}, {"&#60;", "<"}, {"&#38;", "&"}, {"&#x22;", "\""}, {"&#39;", "'"}, {"&amp;lt;", "&lt;"},
	}
}

// Two attributes of one name, wherever they stand.
func TestNamesTwice(t *testing.T) {
	fails(t, "<a b='c' b='d'>", "<a b='c' b='c'/>", "<a b='c' b=\"c\"/>", "<a b='' b=''/>", "<a b='c' d='e' b='f'>", "<a d='e' b='c' b='f'>", "<a d='e' b='c' f='g' b='h' i='j'/>", "<a xmlns='u' xmlns='u'/>", "<a b='1' c='2' d='3' e='4' f='5' g='6' h='7' i='8' j='9' b='10'/>", "<a b='1' c='2' d='3' e='4' f='5' g='6' h='7' i='8' j='9' j='10'/>")
	// Names that part in capitals, or in what is behind, are not one; nor is the element's.
	are(t, "<a b='c' B='d'/>", single(0, "a", attrs("b", "c", "B", "d")...))
	are(t, "<a b='c' bb='c' b.='c' b1='c' _b='c'>", open(0, "a", attrs("b", "c", "bb", "c", "b.", "c", "b1", "c", "_b", "c")...))
	are(t, "<a a='b'/>", single(0, "a", attrs("a", "b")...))
	// Of two elements each has names of its own.
	are(t, "<a b='c'/><a b='d'/>", single(0, "a", attrs("b", "c")...), single(10, "a", attrs("b", "d")...))
}

// numbered are n attributes a0, a1 and so on, written.
func numbered(n int) string {
	s := ""
	for i := range n {
		s += " a" + strconv.Itoa(i) + "='" + strconv.Itoa(i) + "'"
	}
	return s
}

func TestHowManyAttributes(t *testing.T) {
	for n := range 11 {
		var l []api.Attr
		for i := range n {
			l = append(l, attrs("a"+strconv.Itoa(i), strconv.Itoa(i))...)
		}
		are(t, "<a"+numbered(n)+">", open(0, "a", l...))
		are(t, "<a"+numbered(n)+" />", single(0, "a", l...))
	}
	for _, n := range []int{11, 12, 20, 100, 1_000} {
		for _, ahead := range []string{"", first, "é", "中<a/>", "<a" + numbered(10) + ">", "</a>\n"} {
			for _, behind := range []string{"", "x", "<a/>", "<", "&", "<a", "<a" + numbered(11) + ">"} {
				none(t, ahead+"<a"+numbered(n)+">"+behind, len(ahead), api.ErrBig)
				none(t, ahead+"<a"+numbered(n)+"\n/>"+behind, len(ahead), api.ErrBig)
			}
		}
		// What is no token is that ahead of having too many.
		all := "<a" + numbered(n)
		fails(t, all, all+"/", all+" b", all+" b>", all+" b=c>", all+" b='>", all+" b='<'>", all+" b='&'/>", all+"b='c'>", all+" a0='x'>", all+" a10='x'/>", all+" a"+strconv.Itoa(n-1)+"='x'/>", all+"/ >", all+"?>", all+"<")
		// What is wrong ahead of it counts.
		none(t, "x&<a"+numbered(n)+">", 0, api.ErrToken)
		none(t, "é<a b='c' b='d'><a"+numbered(n)+">", 2, api.ErrToken)
	}
	// Ten in each of two are not too many.
	if l, _, err := Tokens("<a" + numbered(10) + "/><a" + numbered(10) + "/>"); len(l) != 2 || err != api.OK {
		t.Errorf("P8.1: Tokens of ten attributes twice: %d tokens, %d", len(l), err)
	}
}

func TestTexts(t *testing.T) {
	are(t, "x", words(0, "x"))
	are(t, "x<a>", words(0, "x"), open(1, "a"))
	are(t, "é<a>中</a>😀", words(0, "é"), open(2, "a"), words(5, "中"), end(8, "a"), words(12, "😀"))
	are(t, "<a/>x<b/>y", single(0, "a"), words(4, "x"), single(5, "b"), words(9, "y"))
	for _, s := range []string{" ", "\n", "\t", "\r", " \t\r\n", ">", "a>b", "/>", "a b='c'/>", "'", "\"", "=", ";", "amp;", "#65;", "]]>", "?>", "-->", "/a>", "\u0085\u2028\ufeff\x7f", "\ufffd"} {
		are(t, s, words(0, s))
		are(t, s+"<a/>", words(0, s), single(len(s), "a"))
		are(t, "<a>"+s+"</a>", open(0, "a"), words(3, s), end(3+len(s), "a"))
	}
	for _, r := range escapes() {
		are(t, r.escaped, words(0, r.sign))
		are(t, "é"+r.escaped+"<a/>"+r.escaped+r.escaped, words(0, "é"+r.sign), single(2+len(r.escaped), "a"), words(6+len(r.escaped), r.sign+r.sign))
	}
	for _, s := range []string{"&", "x&", "&x", "&;", "&nbsp;", "&LT;", "&lt", "&#;", "&#x;", "&#0;", "&#8;", "&#55296;", "&#65534;", "&#1114112;", "&#12345678;", "&#X41;", "&#x1234567;", "& lt;", "&amp;&", "a very long text, and at its end &"} {
		none(t, s, 0, api.ErrToken)
		none(t, s+"<a/>", 0, api.ErrToken)
		none(t, s+"<", 0, api.ErrToken)
		none(t, "é<a/>"+s+"</a>", 6, api.ErrToken)
		none(t, first+s, 38, api.ErrToken)
		none(t, "<a>x</a>"+s, 8, api.ErrToken)
	}
	// What stands between "&" and ";" does not go over a "<".
	none(t, "x&l<a/>t;", 0, api.ErrToken)
}

// What is escaped comes back, in a text and in a value.
func TestWhatIsEscapedComesBack(t *testing.T) {
	for _, s := range []string{"<", "&", "a<b>&'c\"\t\r\n", "&lt;", "é😀<", "]]>", "<a b='c'/>", first} {
		e := escape.Text(s)
		are(t, e, words(0, s))
		are(t, "<a b='"+e+"' c=\""+e+"\">"+e+"</a>", open(0, "a", attrs("b", s, "c", s)...), words(13+2*len(e), s), end(13+3*len(e), "a"))
	}
}

// What is handed out is new memory: who writes into it, or behind it, changes nothing else.
func TestNewMemory(t *testing.T) {
	s := "<a b='c' d='e'><f g='h'/>x<i j='k' l='m'/></a>"
	want, _, _ := Tokens(s)
	got, _, _ := Tokens(s)
	for i := range got {
		for j := range got[i].Attrs {
			got[i].Attrs[j] = api.Attr{Name: "z", Value: "z"}
		}
		_ = append(got[i].Attrs, api.Attr{Name: "y", Value: "y"})
		for k := range got {
			if k > i && !reflect.DeepEqual(got[k], want[k]) {
				t.Fatalf("P8.1: writing into the attributes of the token %d changed the token %d: %+v", i, k, got[k])
			}
		}
	}
	clear(got)
	if again, _, _ := Tokens(s); !reflect.DeepEqual(again, want) {
		t.Errorf("P8.1: Tokens(%q) again: %+v, not %+v", s, again, want)
	}
}
