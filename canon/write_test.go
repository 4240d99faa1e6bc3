package canon

import (
	"reflect"
	"slices"
	"strconv"
	"strings"
	"testing"

	"cardex/api"
	"cardex/token"
	"cardex/tree"
)

// first is what each file begins with.
const first = "<?xml version='1.0' encoding='UTF-8'?>\n"

// is holds that this is written of l, behind the prolog, wherever its nodes began.
func is(t *testing.T, l []api.Node, want string) {
	t.Helper()
	everywhere(l, func(l []api.Node) {
		t.Helper()
		if got, err := Write(l); got != first+want || err != api.OK {
			t.Fatalf("P10.1: Write(%+v): %q, %d, not %q", l, got, err, first+want)
		}
	})
	right(t, l)
}

// of are nodes, each as a Parent, a name, a namespace and a Text.
func of(parts ...any) []api.Node {
	var l []api.Node
	for x := range slices.Chunk(parts, 4) {
		l = append(l, api.Node{Parent: x[0].(int), Name: x[1].(string), Space: x[2].(string), Text: x[3].(string)})
	}
	return l
}

func TestOrdinary(t *testing.T) {
	is(t, of(-1, "a", "", ""), "<a/>")
	is(t, of(-1, "a", "", "x"), "<a>x</a>")
	is(t, of(-1, "a", "", " "), "<a> </a>")
	is(t, of(-1, "a", "", "\n"), "<a>&#10;</a>")
	is(t, of(-1, "a", "u", ""), "<a xmlns='u'/>")
	is(t, of(-1, "a", "u", "x"), "<a xmlns='u'>x</a>")
	is(t, []api.Node{{Parent: -1, Name: "a", Attrs: attrs("b", "c")}}, "<a b='c'/>")
	is(t, []api.Node{{Parent: -1, Name: "a", Space: "u", Text: "x", Attrs: attrs("b", "c", "d", "")}}, "<a xmlns='u' b='c' d=''>x</a>")
	is(t, sample(), "<server-data xmlns='urn:xmpp:pie:0'>"+
		"<host jid='example.org'><user name='r&amp;j' password='&lt;&apos;&quot;&gt;'>"+
		"<query xmlns='jabber:iq:roster'><item jid='a@b' name=''><group>Friends &amp; é&#13;&#10;</group><group> </group></item><item/></query>"+
		"<presence xmlns='' from='c@d'/></user></host>"+
		"<host><user xmlns='u'><user xmlns='urn:xmpp:pie:0'/></user></host></server-data>")
}

// Whatever is wrong, however much else is right: the error, and nothing beside it.
func TestNothingWritten(t *testing.T) {
	for i := range sample() {
		for _, change := range []func(x *api.Node){
			func(x *api.Node) { x.Parent = -2 },
			func(x *api.Node) { x.Parent = i },
			func(x *api.Node) { x.Parent = 12 },
			func(x *api.Node) { x.Name = "" },
			func(x *api.Node) { x.Name = "a:b" },
			func(x *api.Node) { x.Space = "\x00" },
			func(x *api.Node) { x.Text = "\xff" },
			func(x *api.Node) { x.Attrs = numbered(10) },
			func(x *api.Node) { x.Attrs = attrs("b", "1", "b", "2") },
			func(x *api.Node) { x.Attrs = append(x.Attrs, attrs("xmlns", "u")...) },
			func(x *api.Node) { x.Attrs = append(x.Attrs, attrs("", "u")...) },
			func(x *api.Node) { x.Attrs = append(x.Attrs, attrs("b", "\ufffe")...) },
		} {
			wrongTree(t, with(sample(), i, change))
		}
	}
	wrongTree(t, with(sample(), 4, func(x *api.Node) { x.Text = " " }))
	for n := 13; n < 16; n++ {
		wrongTree(t, chain(n))
	}
	wrongTree(t, wide(1_001))
	wrongTree(t, nil)
}

// The prolog is token's, the 10 behind it is all that stands ahead of the first element, and nothing stands behind its end.
func TestAroundTheTree(t *testing.T) {
	for _, l := range [][]api.Node{in(-1), of(-1, "a", "", "x\n"), chain(12), wide(1_000), sample()} {
		s, _ := Write(l)
		if !strings.HasPrefix(s, first+"<"+l[0].Name) || strings.Count(s, "<?") != 1 {
			t.Errorf("P10.1: Write(%+v) begins otherwise: %q", l, s)
		}
		if !strings.HasSuffix(s, ">") || strings.TrimSpace(s) != s {
			t.Errorf("P10.1: Write(%+v) ends otherwise: %q", l, s)
		}
		if strings.ContainsAny(s[len(first):], "\n\r\t\"") {
			t.Errorf("P10.1: Write(%+v) has blanks of its own: %q", l, s)
		}
		got, _, err := token.Tokens(s)
		if len(got) < 2 || got[0].Kind != api.Text || got[0].Text != "\n" || got[0].At != 38 || got[1].Kind != api.Open || err != api.OK {
			t.Errorf("P10.1: Write(%+v) is other pieces: %+v, %d", l, got, err)
		}
	}
}

func TestShapes(t *testing.T) {
	is(t, of(-1, "a", "", "", 0, "b", "", ""), "<a><b/></a>")
	is(t, of(-1, "a", "", "", 0, "b", "", "x"), "<a><b>x</b></a>")
	is(t, of(-1, "a", "", "", 0, "b", "", "", 0, "c", "", "x", 0, "d", "", ""), "<a><b/><c>x</c><d/></a>")
	is(t, of(-1, "a", "", "", 0, "b", "", "", 1, "c", "", "", 2, "d", "", "x"), "<a><b><c><d>x</d></c></b></a>")
	// Kids of one, with those of others between them.
	is(t, of(-1, "a", "", "", 0, "b", "", "", 1, "c", "", "", 2, "d", "", "1", 1, "e", "", "2", 0, "f", "", "3", 0, "g", "", "", 6, "h", "", "4", 0, "i", "", ""),
		"<a><b><c><d>1</d></c><e>2</e></b><f>3</f><g><h>4</h></g><i/></a>")
	// Of one name throughout, and of one text.
	is(t, of(-1, "a", "", "", 0, "a", "", "", 1, "a", "", "x", 1, "a", "", "x", 0, "a", "", "x"), "<a><a><a>x</a><a>x</a></a><a>x</a></a>")
	// Up again over several.
	is(t, of(-1, "a", "", "", 0, "b", "", "", 1, "c", "", "", 2, "d", "", "", 0, "e", "", "", 4, "f", "", ""), "<a><b><c><d/></c></b><e><f/></e></a>")
	for n := 1; n <= 12; n++ {
		is(t, chain(n), strings.Repeat("<a>", n-1)+"<a/>"+strings.Repeat("</a>", n-1))
		is(t, with(chain(n), n-1, func(x *api.Node) { x.Text = "x" }), strings.Repeat("<a>", n)+"x"+strings.Repeat("</a>", n))
	}
	// Many, each of a name of its own: in their order.
	l, want := in(-1), "<a>"
	for i := range 999 {
		s := "k" + strconv.Itoa(i*7919%1_000)
		l = append(l, of(0, s, "", "")...)
		want += "<" + s + "/>"
	}
	is(t, l, want+"</a>")
}

func TestSpaces(t *testing.T) {
	// The first one's is held against "".
	is(t, of(-1, "a", "", ""), "<a/>")
	is(t, of(-1, "a", " ", ""), "<a xmlns=' '/>")
	// The parent's, and another one.
	is(t, of(-1, "a", "u", "", 0, "b", "u", ""), "<a xmlns='u'><b/></a>")
	is(t, of(-1, "a", "u", "", 0, "b", "v", ""), "<a xmlns='u'><b xmlns='v'/></a>")
	is(t, of(-1, "a", "u", "", 0, "b", "U", ""), "<a xmlns='u'><b xmlns='U'/></a>")
	is(t, of(-1, "a", "u", "", 0, "b", "uu", ""), "<a xmlns='u'><b xmlns='uu'/></a>")
	is(t, of(-1, "a", "", "", 0, "b", "u", "x"), "<a><b xmlns='u'>x</b></a>")
	// None, within one.
	is(t, of(-1, "a", "u", "", 0, "b", "", ""), "<a xmlns='u'><b xmlns=''/></a>")
	is(t, of(-1, "a", "u", "", 0, "b", "", "", 1, "c", "", "", 2, "d", "u", ""), "<a xmlns='u'><b xmlns=''><c><d xmlns='u'/></c></b></a>")
	// The outer one again, behind an inner one, and within it.
	is(t, of(-1, "a", "u", "", 0, "b", "v", "", 0, "c", "u", ""), "<a xmlns='u'><b xmlns='v'/><c/></a>")
	is(t, of(-1, "a", "u", "", 0, "b", "v", "", 1, "c", "u", "", 1, "d", "v", "", 0, "e", "u", ""), "<a xmlns='u'><b xmlns='v'><c xmlns='u'/><d/></b><e/></a>")
	// Of kids of one parent: each for itself.
	is(t, of(-1, "a", "u", "", 0, "b", "v", "", 0, "c", "v", "", 0, "d", "w", "", 0, "e", "", "", 0, "f", "", ""), "<a xmlns='u'><b xmlns='v'/><c xmlns='v'/><d xmlns='w'/><e xmlns=''/><f xmlns=''/></a>")
	// Ahead of the attributes, whatever these are named.
	is(t, []api.Node{{Parent: -1, Name: "a", Space: "u", Attrs: attrs("A", "1", "_", "2", "xml", "3")}}, "<a xmlns='u' A='1' _='2' xml='3'/>")
	is(t, []api.Node{{Parent: -1, Name: "a", Space: "u"}, {Parent: 0, Name: "b", Space: "u", Attrs: attrs("c", "v")}, {Parent: 1, Name: "d", Attrs: attrs("c", "u", "a", "")}}, "<a xmlns='u'><b c='v'><d xmlns='' c='u' a=''/></b></a>")
	// Each within the other, all ways.
	for n := 1; n <= 12; n++ {
		l, want := chain(n), ""
		for i := range l {
			l[i].Space = strconv.Itoa(i % 3)
			want += "<a xmlns='" + l[i].Space + "'>"
		}
		is(t, l, strings.TrimSuffix(want, ">")+"/>"+strings.Repeat("</a>", n-1))
	}
}

func TestAttrs(t *testing.T) {
	of := func(l ...string) []api.Node { return []api.Node{{Parent: -1, Name: "a", Attrs: attrs(l...)}} }
	is(t, of("b", ""), "<a b=''/>")
	is(t, of("c", "1", "b", "2", "a", "3"), "<a c='1' b='2' a='3'/>")
	is(t, of("a", "1", "b", "1", "A", "1"), "<a a='1' b='1' A='1'/>")
	is(t, of("xmlns.", "u", "xmlnsa", "v"), "<a xmlns.='u' xmlnsa='v'/>")
	is(t, of("b", "c='d'"), "<a b='c=&apos;d&apos;'/>")
	is(t, []api.Node{{Parent: -1, Name: "a", Space: "u", Attrs: numbered(9)}}, "<a xmlns='u' a0='0' a1='1' a2='2' a3='3' a4='4' a5='5' a6='6' a7='7' a8='8'/>")
	// Each node has its own.
	is(t, []api.Node{{Parent: -1, Name: "a", Attrs: attrs("b", "1")}, {Parent: 0, Name: "c"}, {Parent: 0, Name: "d", Attrs: attrs("e", "2", "b", "3"), Text: "x"}}, "<a b='1'><c/><d e='2' b='3'>x</d></a>")
}

func TestEscaped(t *testing.T) {
	for _, r := range []struct{ s, want string }{
		{"&", "&amp;"}, {"<", "&lt;"}, {">", "&gt;"}, {"\"", "&quot;"}, {"'", "&apos;"}, {"\t", "&#9;"}, {"\n", "&#10;"}, {"\r", "&#13;"},
		{"&amp;", "&amp;amp;"}, {"&#10;", "&amp;#10;"}, {"a&b<c", "a&amp;b&lt;c"}, {"\r\n\t", "&#13;&#10;&#9;"}, {"</a>", "&lt;/a&gt;"}, {"''", "&apos;&apos;"},
		{" ", " "}, {"é€😀", "é€😀"}, {";", ";"}, {"#", "#"}, {"/", "/"}, {"=", "="}, {"\x7f", "\x7f"}, {"\u0085\u00a0\u2028", "\u0085\u00a0\u2028"}, {"]]>", "]]&gt;"},
		{strings.Repeat("<x&", 9_000), strings.Repeat("&lt;x&amp;", 9_000)},
	} {
		is(t, of(-1, "a", "", r.s), "<a>"+r.want+"</a>")
		is(t, of(-1, "a", r.s, ""), "<a xmlns='"+r.want+"'/>")
		is(t, []api.Node{{Parent: -1, Name: "a", Attrs: attrs("b", r.s)}}, "<a b='"+r.want+"'/>")
		is(t, []api.Node{{Parent: -1, Name: "a", Attrs: attrs("b", r.s, "c", "x")}, {Parent: 0, Name: "d", Space: r.s, Text: r.s, Attrs: attrs("e", "y", "f", r.s)}, {Parent: 0, Name: "g"}},
			"<a b='"+r.want+"' c='x'><d xmlns='"+r.want+"' e='y' f='"+r.want+"'>"+r.want+"</d><g/></a>")
	}
}

// What is written is as great as it comes to; more than a file may have is not parsed, but it is written.
func TestGreat(t *testing.T) {
	room := 20_000 - len(first+"<a></a>")
	for n := room - 2; n <= room+2; n++ {
		l := of(-1, "a", "", strings.Repeat("x", n))
		s, err := Write(l)
		got, at, wrong := tree.Parse(s)
		if len(s) != 20_000-room+n || err != api.OK || at != 0 || (wrong == api.OK) != (n <= room) || n <= room != slices.EqualFunc(got, l, same) {
			t.Errorf("P10.1: Write of %d signs: %d bytes, %d; parsed again: %d nodes, %d, %d", n, len(s), err, len(got), at, wrong)
		}
	}
	l := wide(1_000)
	for i := range l {
		l[i].Name = "n" + strings.Repeat("-", 300)
		l[i].Space = strings.Repeat("u", i%3*100)
		l[i].Attrs = numbered(i % 10)
		if i > 0 {
			l[i].Text = strings.Repeat("é<", i)
		}
	}
	right(t, l)
}

// Trees that are written and parsed again, in about as great a file as may be.
func TestThereAndBack(t *testing.T) {
	for n := 1; n <= 1_000; n = n*3/2 + 1 {
		for depth := 1; depth <= 11; depth++ {
			l := comb(n, depth)
			for i := range l {
				l[i].Name = []string{"a", "b", "c-d", "_"}[i%4]
				l[i].Space = []string{"", "u", "u", "v&", ""}[i/3%5]
				if n < 500 {
					l[i].Attrs = numbered(i % 4)
				}
				if i+1 == n || l[i+1].Parent != i {
					l[i].Text = []string{"", "x", " ", "\r\n", "<é>"}[i%5]
				}
			}
			right(t, l)
			s, _ := Write(l)
			if got, _, err := tree.Parse(s); len(s) > 20_000 || !slices.EqualFunc(got, l, same) || err != api.OK {
				t.Fatalf("P10.1: parsed again, %d nodes in %d bytes: %d nodes, %d", n, len(s), len(got), err)
			}
			again, _, _ := tree.Parse(s)
			if twice, err := Write(again); twice != s || err != api.OK {
				t.Fatalf("P10.1: written again, %d nodes: %d", n, err)
			}
		}
	}
}

// Files that are parsed are written as the same tree, whatever they looked like.
func TestParsedIsWritten(t *testing.T) {
	for _, r := range []struct{ s, want string }{
		{"<a></a>", "<a/>"},
		{"\n<a >\t</a >\n", "<a>&#9;</a>"},
		{"<a b = \"c\" xmlns = 'u' > <b xmlns='u'/> <c/> </a>", "<a xmlns='u' b='c'><b/><c/></a>"},
		{"<a xmlns=''><b xmlns='u'><c xmlns=''>&#x41;&apos;</c></b></a>", "<a><b xmlns='u'><c xmlns=''>A&apos;</c></b></a>"},
		{first + "<a b='&#10;'>x>y</a>", "<a b='&#10;'>x&gt;y</a>"},
	} {
		l, _, err := tree.Parse(r.s)
		if err != api.OK {
			t.Fatalf("tree.Parse(%q): %d", r.s, err)
		}
		is(t, l, r.want)
	}
	// A file may have one attribute more than a tree that is right, where no namespace stands among them.
	const nine = " b='' c='' d='' e='' f='' g='' h='' i='' j=''"
	l, _, _ := tree.Parse("<a xmlns='u'" + nine + "/>")
	is(t, l, "<a xmlns='u'"+nine+"/>")
	l, _, err := tree.Parse("<a" + nine + " k=''/>")
	if len(l) != 1 || len(l[0].Attrs) != 10 || err != api.OK {
		t.Fatalf("tree.Parse of ten attributes: %+v, %d", l, err)
	}
	wrongTree(t, l)
}

// roomy is l with nodes behind its end, and attributes behind those of each node: all of it, as it is in memory.
func roomy(l []api.Node) []api.Node {
	all := append(slices.Clone(l), in(0, 0)...)
	for i := range all {
		all[i].Attrs = append(slices.Clone(all[i].Attrs), attrs("spare", "1", "spare", "2")...)
	}
	return all
}

// What is handed in is not changed, nor what is behind its end; and that is not asked.
func TestHandedInStays(t *testing.T) {
	full := wide(30)
	for i := range full {
		full[i].Space, full[i].Attrs = strconv.Itoa(i%4), numbered(9)
	}
	for _, l := range [][]api.Node{sample(), full, chain(12), chain(13), in(-1, -1), of(-1, "a", "u", "x", 0, "b", "v", ""), in(0), nil} {
		all, want := roomy(l), roomy(l)
		lists := slices.Clone(all)
		for i := range lists {
			lists[i].Attrs = lists[i].Attrs[:len(lists[i].Attrs)-2]
		}
		before := slices.Clone(lists)
		if got := Right(lists[:len(l)]); got != toldRight(l) {
			t.Errorf("P10.1: Right of a list with room behind: %v", got)
		}
		s, err := Write(lists[:len(l)])
		if clean, wrong := Write(l); s != clean || err != wrong {
			t.Errorf("P10.1: Write of a list with room behind: %q, %d, not %q, %d", s, err, clean, wrong)
		}
		if !reflect.DeepEqual(lists, before) || !reflect.DeepEqual(all, want) {
			t.Errorf("P10.1: what was handed in was changed: %+v, not %+v", all, want)
		}
	}
}

// Nothing is kept from call to call.
func TestNothingKept(t *testing.T) {
	l := sample()
	want, _ := Write(l)
	for _, other := range [][]api.Node{nil, chain(12), chain(13), wide(1_000), in(0)} {
		Right(other)
		Write(other)
		if s, err := Write(sample()); s != want || err != api.OK || !Right(sample()) {
			t.Fatalf("P10.1: Write again: %q, %d, not %q", s, err, want)
		}
	}
	for i := range l {
		clear(l[i].Attrs)
	}
	clear(l)
	if s, err := Write(sample()); s != want || err != api.OK || Right(l) {
		t.Errorf("P10.1: Write, when what was handed in is changed: %q, %d, not %q", s, err, want)
	}
}
