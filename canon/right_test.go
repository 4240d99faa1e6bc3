package canon

import (
	"math"
	"slices"
	"strconv"
	"strings"
	"testing"

	"cardex/api"
)

// attrs are attributes, each a name with its value behind it.
func attrs(l ...string) []api.Attr {
	var all []api.Attr
	for pair := range slices.Chunk(l, 2) {
		all = append(all, api.Attr{Name: pair[0], Value: pair[1]})
	}
	return all
}

// in are nodes with these Parents.
func in(parents ...int) []api.Node {
	var l []api.Node
	for _, p := range parents {
		l = append(l, api.Node{Parent: p, Name: "a"})
	}
	return l
}

// chain is n nodes, each in the one ahead.
func chain(n int) []api.Node {
	var l []api.Node
	for i := range n {
		l = append(l, api.Node{Parent: i - 1, Name: "a"})
	}
	return l
}

// wide is n nodes, all but the first one in that.
func wide(n int) []api.Node {
	l := slices.Repeat(in(0), n)
	l[0].Parent = -1
	return l
}

// comb is n nodes: below the first one chains of depth nodes each, as many as there is room for.
func comb(n, depth int) []api.Node {
	l := chain(n)
	for i := 1; i < n; i += depth {
		l[i].Parent = 0
	}
	return l
}

// feathered is n nodes: those of even places stand in the one before the last, or in the first one; the others in the last one.
func feathered(n int) []api.Node {
	l := chain(n)
	for i := 2; i < n; i += 2 {
		l[i].Parent = i - 2
		if i%8 == 0 {
			l[i].Parent = 0
		}
	}
	return l
}

// sample is a tree with all that a tree may have.
func sample() []api.Node {
	return []api.Node{
		{Parent: -1, At: 39, Name: "server-data", Space: "urn:xmpp:pie:0"},
		{Parent: 0, At: 4, Name: "host", Space: "urn:xmpp:pie:0", Attrs: attrs("jid", "example.org")},
		{Parent: 1, At: 4, Name: "user", Space: "urn:xmpp:pie:0", Attrs: attrs("name", "r&j", "password", "<'\">")},
		{Parent: 2, At: -9, Name: "query", Space: "jabber:iq:roster"},
		{Parent: 3, Name: "item", Space: "jabber:iq:roster", Attrs: attrs("jid", "a@b", "name", "")},
		{Parent: 4, Name: "group", Space: "jabber:iq:roster", Text: "Friends & é\r\n"},
		{Parent: 4, Name: "group", Space: "jabber:iq:roster", Text: " "},
		{Parent: 3, Name: "item", Space: "jabber:iq:roster"},
		{Parent: 2, Name: "presence", Attrs: attrs("from", "c@d")},
		{Parent: 0, Name: "host", Space: "urn:xmpp:pie:0"},
		{Parent: 9, Name: "user", Space: "u"},
		{Parent: 10, Name: "user", Space: "urn:xmpp:pie:0"},
	}
}

// with is l with the node i changed; l itself stays as it is.
func with(l []api.Node, i int, change func(x *api.Node)) []api.Node {
	all := slices.Clone(l)
	all[i].Attrs = slices.Clone(all[i].Attrs)
	change(&all[i])
	return all
}

// right holds that l is, and that it is written and parsed again.
func right(t *testing.T, l []api.Node) {
	t.Helper()
	if !toldRight(l) || !Right(l) {
		t.Fatalf("P10.1: Right(%+v): %v; it is told: %v", l, Right(l), toldRight(l))
	}
	hold(t, l)
}

// wrongTree holds that l is not right, and that nothing is written of it.
func wrongTree(t *testing.T, l []api.Node) {
	t.Helper()
	if toldRight(l) || Right(l) {
		t.Fatalf("P10.1: Right(%+v): %v; it is told: %v", l, Right(l), toldRight(l))
	}
	if s, err := Write(l); s != "" || err != api.ErrTree {
		t.Fatalf("P10.1: Write(%+v): %q, %d", l, s, err)
	}
}

// node holds that x may be a node, or may not, wherever it stands; it has no kids.
func node(t *testing.T, may bool, x api.Node) {
	t.Helper()
	held := wrongTree
	if may {
		held = right
	}
	for _, ahead := range [][]api.Node{nil, in(-1), chain(5), chain(11), wide(40), sample()} {
		x.Parent = len(ahead) - 1
		if len(ahead) == 40 {
			x.Parent = 0
		}
		l := append(slices.Clone(ahead), x)
		held(t, l)
		if len(ahead) == 0 && x.Text == "" {
			held(t, append(l, in(0, 0, 2)...))
		}
		if len(ahead) > 0 {
			held(t, append(l, in(0)...))
		}
	}
}

func TestNoNodes(t *testing.T) {
	wrongTree(t, nil)
	wrongTree(t, []api.Node{})
	wrongTree(t, in(-1, 0)[:0])
	wrongTree(t, make([]api.Node, 1)) // its Parent is itself, and it has no name
	right(t, in(-1))
}

func TestHowManyNodes(t *testing.T) {
	for n := range 30 {
		right(t, wide(n+1))
		right(t, comb(n+1, 4))
		right(t, feathered(n+1))
	}
	for _, shape := range []func(n int) []api.Node{
		wide,
		feathered,
		func(n int) []api.Node { return comb(n, 2) },
		func(n int) []api.Node { return comb(n, 11) },
		func(n int) []api.Node { return append(chain(12), slices.Repeat(in(10), n-12)...) },
		func(n int) []api.Node { return append(chain(12), slices.Repeat(in(0), n-12)...) },
		func(n int) []api.Node {
			l := wide(n)
			l[n-1].Parent, l[n-2].Parent = n-2, n-3
			return l
		},
	} {
		right(t, shape(999))
		right(t, shape(1_000))
		wrongTree(t, shape(1_001))
		wrongTree(t, shape(1_002))
		wrongTree(t, shape(5_000))
		right(t, shape(1_001)[:1_000])
	}
	wrongTree(t, slices.Concat(sample(), slices.Repeat(in(0), 1_001-len(sample()))))
	right(t, slices.Concat(sample(), slices.Repeat(in(0), 1_000-len(sample()))))
}

// far are numbers that are no place in any list.
var far = []int{-2, -3, -1_000, math.MinInt, math.MinInt32, 1_000, 1_001, math.MaxInt32, math.MaxInt - 1, math.MaxInt}

func TestParentOfTheFirst(t *testing.T) {
	for _, l := range [][]api.Node{in(-1), in(-1, 0), chain(12), wide(1_000), sample()} {
		right(t, l)
		for _, p := range append([]int{0, 1, 2, 11, 12, 999}, far...) {
			wrongTree(t, with(l, 0, func(x *api.Node) { x.Parent = p }))
		}
	}
}

func TestParents(t *testing.T) {
	for _, ahead := range [][]api.Node{in(-1), in(-1, 0), in(-1, 0, 0), chain(5), chain(10), wide(20), comb(20, 3), feathered(20), sample()} {
		n := len(ahead)
		open := around(ahead, n)
		for p := -1; p <= n+3; p++ {
			l := append(slices.Clone(ahead), in(p)...)
			if slices.Contains(open, p) {
				right(t, l)
				right(t, append(l, in(p, n+1, p)...))
				wrongTree(t, append(l, in(n+1)...))
				continue
			}
			// It is closed already, it is none, it is this one itself, or it comes behind.
			wrongTree(t, l)
			wrongTree(t, append(l, in(0)...))
		}
		for _, p := range far {
			wrongTree(t, append(slices.Clone(ahead), in(p)...))
			wrongTree(t, append(slices.Clone(ahead), in(0, p, 0)...))
		}
	}
	right(t, in(-1, 0, 1, 2, 0))
	for closed := range 4 { // 0 is still open
		l := in(-1, 0, 1, 2, 0, closed)
		if closed == 0 {
			right(t, l)
		} else {
			wrongTree(t, l)
		}
	}
	// Another one without a parent, wherever.
	for i := 1; i < 12; i++ {
		wrongTree(t, with(sample(), i, func(x *api.Node) { x.Parent = -1 }))
	}
	wrongTree(t, in(-1, -1))
	wrongTree(t, slices.Concat(sample(), sample()))
}

func TestHowDeep(t *testing.T) {
	for n := 1; n <= 12; n++ {
		right(t, chain(n))
	}
	for n := 13; n < 40; n++ {
		wrongTree(t, chain(n))
	}
	wrongTree(t, chain(1_000))
	for p := range 12 {
		l := append(chain(12), in(p)...)
		if p == 11 {
			wrongTree(t, l)
			wrongTree(t, append(l, in(0)...))
		} else {
			right(t, l)
		}
	}
	// Those that are closed do not count.
	right(t, comb(1_000, 11))
	wrongTree(t, comb(1_000, 12))
	wrongTree(t, comb(13, 12))
	right(t, comb(12, 12))
	// Deep at the end alone.
	l := slices.Concat(wide(100), in(99, 100, 101, 102, 103, 104, 105, 106, 107, 108))
	right(t, l)
	wrongTree(t, append(l, in(109)...))
	right(t, append(l, in(108)...))
	// A Text takes no depth.
	l = chain(12)
	l[11].Text = "x"
	right(t, l)
}

// begins and within are what a name may begin with, and what may stand within it.
const (
	begins = "abcdefghijklmnopqrstuvwxyzABCDEFGHIJKLMNOPQRSTUVWXYZ_"
	within = begins + "0123456789.-"
)

// named holds that s is a name of an element, and of an attribute, or not.
func named(t *testing.T, may bool, s string) {
	t.Helper()
	node(t, may, api.Node{Name: s})
	node(t, may, api.Node{Name: s, Space: "u", Text: "x", Attrs: attrs("b", "c")})
	node(t, may, api.Node{Name: "a", Attrs: attrs(s, "")})
	node(t, may, api.Node{Name: "a", Attrs: attrs(s, "v", "bb", "c")})
	node(t, may, api.Node{Name: "a", Attrs: attrs("bb", "c", "dd", "e", s, "v")})
	node(t, may, api.Node{Name: "a", Attrs: attrs("bb", "c", s, "v", "dd", "e")})
}

func TestNames(t *testing.T) {
	for _, s := range []string{"a", "Z", "_", "a1", "_.-9", "a-b", "a.b", "server-data", "A_b-C.9", "___", "a--", "a..", "xml", "Xmlns", strings.Repeat("n", 5_000), strings.Repeat("n9-", 10_000)} {
		named(t, true, s)
	}
	for _, s := range []string{"", "1", "9a", "-", "-a", ".", ".a", ":", "a:b", ":a", "a:", "xmlns:a", " ", " a", "a ", "a b", "\ta", "a\t", "a\n", "\na", "a\r", "\r", "a=", "a'", "a\"", "a/", "/a", "a>", "<a", "&a", "a&amp;", "a;", "é", "aé", "éa", "aéb", "ß", "Ω", "中", "😀", "a😀", "ａ", "ａｂ", "Ａ", "\u0660", "a\u0660", "a\u00a0", "\u00b5", "a\u0301", "\ufeffa", "\u200d", "\ufffd", "\xff", "a\xff", "\xffa", "a\x80b", "\xc3", "a\xc3", "\xe2\x82", "\x00", "a\x00", "\x00a", "a\x00b", "\x7f", "a\x7f", "\u212a", "a\u017f", strings.Repeat("n", 5_000) + ":", ":" + strings.Repeat("n", 5_000)} {
		named(t, false, s)
	}
}

func TestEachSignOfNames(t *testing.T) {
	for c := range 256 {
		s := string([]byte{byte(c)})
		may := strings.Contains(within, s)
		first := strings.Contains(begins, s)
		named(t, first, s)
		named(t, first, s+"a-9")
		named(t, may, "a"+s)
		named(t, may, "a"+s+"9")
		named(t, may, "_-"+s)
	}
	for c := rune(128); c < 66_000; c++ {
		s := string(c)
		for _, s := range []string{s, "a" + s, s + "a"} {
			if Right([]api.Node{{Parent: -1, Name: s}}) || Right([]api.Node{{Parent: -1, Name: "a", Attrs: attrs(s, "")}}) {
				t.Fatalf("P10.1: Right of the name %q", s)
			}
		}
	}
}

// numbered are n attributes, each of a name of its own.
func numbered(n int) []api.Attr {
	var l []api.Attr
	for i := range n {
		l = append(l, attrs("a"+strconv.Itoa(i), strconv.Itoa(i))...)
	}
	return l
}

func TestAlike(t *testing.T) {
	for n := 2; n <= 9; n++ {
		for i := range n {
			for j := range n {
				l := numbered(n)
				node(t, true, api.Node{Name: "a", Attrs: l})
				l[i].Name = l[j].Name
				node(t, i == j, api.Node{Name: "a", Attrs: l})
				l[i].Value = l[j].Value
				node(t, i == j, api.Node{Name: "a", Attrs: l})
				// Of another one in capitals alone, or in what is behind.
				l[i].Name = "A" + l[j].Name[1:]
				node(t, true, api.Node{Name: "a", Attrs: l})
				l[i].Name = l[j].Name + "_"
				node(t, true, api.Node{Name: "a", Attrs: l})
			}
		}
	}
	node(t, true, api.Node{Name: "a", Attrs: attrs("a", "1", "b", "1", "A", "1", "aa", "1", "_a", "1", "a.", "1")})
	// Alike of two nodes: one in the other, one beside the other.
	same := attrs("b", "1", "c", "2")
	for _, p := range []int{0, 1} {
		right(t, []api.Node{{Parent: -1, Name: "a", Attrs: same}, {Parent: 0, Name: "b", Attrs: same}, {Parent: p, Name: "c", Attrs: same}})
	}
	right(t, []api.Node{{Parent: -1, Name: "b", Space: "b", Attrs: attrs("b", "b")}})
}

func TestXmlns(t *testing.T) {
	for _, value := range []string{"", "u", "x"} {
		for _, space := range []string{"", "u"} {
			node(t, false, api.Node{Name: "a", Space: space, Attrs: attrs("xmlns", value)})
			node(t, false, api.Node{Name: "a", Space: space, Attrs: attrs("b", "c", "xmlns", value)})
			node(t, false, api.Node{Name: "a", Space: space, Attrs: attrs("xmlns", value, "b", "c")})
			node(t, false, api.Node{Name: "a", Space: space, Attrs: append(numbered(8), attrs("xmlns", value)...)})
			for _, name := range []string{"xmlns.a", "xmlns-", "xmlns_", "xmlnsx", "xmlns0", "XMLNS", "Xmlns", "xmlnS", "xmln", "xml", "x", "mlns", "ns", "axmlns", "_xmlns"} {
				node(t, true, api.Node{Name: "a", Space: space, Attrs: attrs(name, value)})
				node(t, true, api.Node{Name: name, Space: space, Attrs: attrs("b", "c", name, value)})
			}
		}
	}
	// An element may have that name.
	node(t, true, api.Node{Name: "xmlns"})
	node(t, true, api.Node{Name: "xmlns", Space: "xmlns", Text: "xmlns", Attrs: attrs("b", "xmlns")})
}

func TestHowManyAttrs(t *testing.T) {
	for _, space := range []string{"", "u"} {
		for n := range 10 {
			node(t, true, api.Node{Name: "a", Space: space, Attrs: numbered(n)})
		}
		for _, n := range []int{10, 11, 12, 20, 1_000} {
			node(t, false, api.Node{Name: "a", Space: space, Attrs: numbered(n)})
		}
		node(t, true, api.Node{Name: "a", Space: space, Attrs: numbered(10)[:9]})
	}
	// Each of many nodes has as many.
	l := wide(20)
	for i := range l {
		l[i].Attrs = numbered(9)
		l[i].Space = "u" + strconv.Itoa(i)
	}
	right(t, l)
	l[19].Attrs = numbered(10)
	wrongTree(t, l)
}

// noTexts are no text; texts are.
var (
	noTexts = []string{"\x00", "\x01", "\x08", "\x0b", "\x0c", "\x0e", "\x1f", "\x1b[", "a\x00b", "x\x1f", "\xff", "\xfe", "\x80", "a\x80", "\xc3", "\xc3x", "é\xc3", "\xe2\x82", "\xf0\x9f\x98", "\xed\xa0\x80", "\xed\xbf\xbf", "\xc0\x80", "\xc1\xbf", "\xe0\x9f\xbf", "\xf4\x90\x80\x80", "\xf8\x88\x80\x80\x80", "\ufffe", "\uffff", "a\uffff", "\ufffe ", strings.Repeat("x", 30_000) + "\x00", "\x00" + strings.Repeat("x", 30_000)}
	texts   = []string{"x", "xy", " ", "  ", " x", "x ", "\t", "\n", "\r", "\r\n", "\t\n\r ", "&", "<", ">", "\"", "'", "&<>\"'\t\n\r", "&amp;", "&#10;", "&&", "a&b", "a<b", "</a>", "<a/>", "]]>", "<![CDATA[", "<!--", "<?xml?>", "xmlns='u'", "/>", "é", "€", "😀", "\ufffd", "\x7f", "\u0080", "\u0085", "\u00a0", "\u2028", "\ufeff", "\ud7ff", "\ue000", "\U0010ffff", "\U0001fffe", "\U0001ffff", strings.Repeat("&é", 15_000)}
)

func TestTexts(t *testing.T) {
	each := func(may bool, s string) {
		t.Helper()
		node(t, may, api.Node{Name: "a", Text: s})
		node(t, may, api.Node{Name: "a", Space: s})
		node(t, may, api.Node{Name: "a", Attrs: attrs("b", s)})
		node(t, may, api.Node{Name: "a", Space: s, Text: "x", Attrs: attrs("b", "c")})
		node(t, may, api.Node{Name: "a", Space: "u", Text: s, Attrs: attrs("b", "c")})
		node(t, may, api.Node{Name: "a", Space: "u", Text: "x", Attrs: attrs("b", "c", "d", s)})
		node(t, may, api.Node{Name: "a", Attrs: attrs("b", s, "d", "")})
	}
	each(true, "")
	for _, s := range texts {
		each(true, s)
	}
	for _, s := range noTexts {
		each(false, s)
	}
	for c := range 128 {
		each(c >= 32 || c == 9 || c == 10 || c == 13, string(rune(c)))
	}
	// A Space that is no text counts where nothing of it would be written, too.
	for _, s := range noTexts {
		wrongTree(t, []api.Node{{Parent: -1, Name: "a", Space: s}, {Parent: 0, Name: "b", Space: s}})
		wrongTree(t, []api.Node{{Parent: -1, Name: "a"}, {Parent: 0, Name: "b", Space: s}, {Parent: 1, Name: "b", Space: s}})
	}
}

func TestTextBesideKids(t *testing.T) {
	for _, s := range texts {
		for depth := range 11 {
			for kids := 1; kids < 3; kids++ {
				l := slices.Concat(chain(depth+1), slices.Repeat(in(depth), kids))
				right(t, l)
				wrongTree(t, with(l, depth, func(x *api.Node) { x.Text = s }))
				wrongTree(t, with(append(l, in(0)...), depth, func(x *api.Node) { x.Text = s }))
				right(t, with(l, len(l)-1, func(x *api.Node) { x.Text = s }))
				right(t, with(l, depth+1, func(x *api.Node) { x.Text = s }))
			}
		}
		// The kid is the last of many nodes, and stands behind what stands in others.
		wrongTree(t, with(wide(1_000), 0, func(x *api.Node) { x.Text = s }))
		l := slices.Concat(in(-1, 0), slices.Repeat(in(1), 500), in(0))
		right(t, with(l, len(l)-1, func(x *api.Node) { x.Text = s }))
		wrongTree(t, with(l, 1, func(x *api.Node) { x.Text = s }))
		// One that was told words of is none to stand in, be it the last one ahead or not.
		for p := range 3 {
			l := with(in(-1, 0, 1, p), p, func(x *api.Node) { x.Text = s })
			wrongTree(t, l)
		}
		right(t, with(in(-1, 0, 0, 0), 1, func(x *api.Node) { x.Text = s }))
	}
}

// places are ways to say where a node began.
var places = []func(i int) int{
	func(i int) int { return 0 },
	func(i int) int { return 39 + 4*i },
	func(i int) int { return 7 - i },
	func(i int) int { return math.MinInt + i },
	func(i int) int { return math.MaxInt - i%3 },
}

// everywhere hands l to use, with all places.
func everywhere(l []api.Node, use func(l []api.Node)) {
	for _, place := range places {
		all := slices.Clone(l)
		for i := range all {
			all[i].At = place(i)
		}
		use(all)
	}
}

// Where a node began plays no part, be l right or not.
func TestAt(t *testing.T) {
	for _, l := range [][]api.Node{in(-1), in(-1, 0, 1), chain(12), wide(1_000), comb(40, 3), feathered(40), sample(), {{Parent: -1, Name: "a", Space: "u", Text: "x", Attrs: numbered(9)}}} {
		everywhere(l, func(l []api.Node) { right(t, l) })
	}
	for _, l := range [][]api.Node{in(0), in(-1, -1), in(-1, 0, 0, 1), chain(13), wide(1_001), {{Parent: -1}}, {{Parent: -1, Name: "a", Text: "\x00"}}, {{Parent: -1, Name: "a", Attrs: numbered(10)}}, with(sample(), 0, func(x *api.Node) { x.Text = " " })} {
		everywhere(l, func(l []api.Node) { wrongTree(t, l) })
	}
}
