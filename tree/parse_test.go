package tree

import (
	"reflect"
	"slices"
	"strings"
	"testing"

	"cardex/api"
	"cardex/token"
)

// first is the line that token passes over.
const first = `<?xml version='1.0' encoding='UTF-8'?>`

// parsed holds that s is a tree of these nodes.
func parsed(t *testing.T, s string, want ...api.Node) {
	t.Helper()
	for _, head := range []string{"", " ", first, first + "\r\n\t"} {
		all := slices.Clone(want)
		for i := range all {
			all[i].At += len(head)
		}
		for _, tail := range []string{"", "\n", " \t&#32;"} {
			got, at, err := Parse(head + s + tail)
			if !reflect.DeepEqual(got, all) || at != 0 || err != api.OK {
				t.Errorf("P9.2: Parse(%q): %+v, %d, %d, not %+v", head+s+tail, got, at, err, all)
			}
		}
	}
}

// refused holds that nothing is told of s but where it is wrong, and why.
func refused(t *testing.T, s string, where int, wrong api.Errno) {
	t.Helper()
	if got, at, err := Parse(s); len(got) != 0 || at != where || err != wrong {
		t.Errorf("P9.2: Parse(%.200q): %+v, %d, %d, not the error %d at %d alone", s, got, at, err, wrong, where)
	}
}

func TestParse(t *testing.T) {
	parsed(t, "<a/>", api.Node{Parent: -1, Name: "a"})
	parsed(t, "<a>x</a>", api.Node{Parent: -1, Name: "a", Text: "x"})
	parsed(t, "<a>x&amp;y&lt;z</a>", api.Node{Parent: -1, Name: "a", Text: "x&y<z"})
	parsed(t, "<a> \n</a>", api.Node{Parent: -1, Name: "a", Text: " \n"})
	parsed(t, "<a>&#32;<b/>&#9;</a>", api.Node{Parent: -1, Name: "a"}, api.Node{Parent: 0, At: 8, Name: "b"})
	parsed(t, "<query xmlns='jabber:iq:roster'>\n\t<item jid=\"romeo@example.net\" name='R &amp; J'>\n\t\t<group>Fri&#x65;nds</group></item></query>",
		api.Node{Parent: -1, Name: "query", Space: "jabber:iq:roster"},
		api.Node{Parent: 0, At: 34, Name: "item", Space: "jabber:iq:roster", Attrs: attrs("jid", "romeo@example.net", "name", "R & J")},
		api.Node{Parent: 1, At: 84, Name: "group", Space: "jabber:iq:roster", Text: "Friends"})
	parsed(t, "<a xmlns='u' b='1'><c/><d xmlns=''><e/></d><f xmlns='v'>t</f></a>",
		api.Node{Parent: -1, Name: "a", Space: "u", Attrs: attrs("b", "1")},
		api.Node{Parent: 0, At: 19, Name: "c", Space: "u"},
		api.Node{Parent: 0, At: 23, Name: "d"},
		api.Node{Parent: 2, At: 35, Name: "e"},
		api.Node{Parent: 0, At: 43, Name: "f", Space: "v", Text: "t"})
}

// Each of token's errors, where it is; ahead of whatever Build would say.
func TestNoTokens(t *testing.T) {
	many := "<a b='1' c='2' d='3' e='4' f='5' g='6' h='7' i='8' j='9' k='10' l='11'/>"
	for _, ahead := range []string{"", "<a>", "<a/>", "<a/><a/>", "</a>", "x", "x<a/>", "<a>x<b/></a>", "<a></b>", strings.Repeat("<a>", 13), strings.Repeat("<a/>", 1_001), first} {
		refused(t, ahead+"<", len(ahead), api.ErrToken)
		refused(t, ahead+"<a", len(ahead), api.ErrToken)
		refused(t, ahead+"<!-- a --><b/>", len(ahead), api.ErrToken)
		refused(t, ahead+"<a b='c' b='d'/>", len(ahead), api.ErrToken)
		refused(t, ahead+many, len(ahead), api.ErrBig)
		refused(t, ahead+many+"</z><", len(ahead), api.ErrBig)
		refused(t, ahead+"<b/>\xff", 0, api.ErrUtf)
		refused(t, ahead+"\x00", 0, api.ErrUtf)
		refused(t, ahead+strings.Repeat(" ", 20_001), 0, api.ErrBig)
		refused(t, ahead+strings.Repeat("\xff", 20_001), 0, api.ErrBig)
	}
	refused(t, "x&", 0, api.ErrToken)
	refused(t, "<a/>&", 4, api.ErrToken)
	refused(t, "<a>x<b/></a>&nbsp;", 12, api.ErrToken)
	refused(t, "<a></a>"+strings.Repeat(" ", 19_994), 0, api.ErrBig)
	parsed(t, "<a></a>"+strings.Repeat(" ", 19_900), api.Node{Parent: -1, Name: "a"})
}

// Each of Build's errors, where it is.
func TestNoTree(t *testing.T) {
	for s, where := range map[string]int{"": 0, " ": 0, "\n\t\r ": 0, first: 0, first + "\n": 0, "x": 0, "x<a/>": 0, " x<a/>": 0, "&#160;<a/>": 0, "<a/>x": 4, "<a>x</a>\ny": 8, "<a/><b/>": 4, "<a/> <a/>": 5, "<a></a><b>": 7, "<a></b>": 3, "<a></A>": 3, "</a>": 0, "</a><a>": 0, "<a/></a>": 4, "<a></a></a>": 7, "<a><b></a></b>": 6, "<a>": 0, "<a><b></b>": 0, "<a><b/>": 0, "<a>x<b/>": 0, first + "<a>": 0, first + "</a>": 38} {
		refused(t, s, where, api.ErrTree)
	}
	for n := 1; n <= 12; n++ {
		refused(t, strings.Repeat("<a>", n)+strings.Repeat("</a>", n+1), 7*n, api.ErrTree)
		refused(t, strings.Repeat("<a>", n)+strings.Repeat("</a>", n-1), 0, api.ErrTree)
	}
	for s, where := range map[string]int{"<a>x<b/></a>": 0, "<a><b/>x</a>": 0, "<a><b/>x<b/></a>": 0, "<a><b>x<c/></b></a>": 3, "<a>\n<b></b>\n<c>&#160;<d/></c></a>": 12, "<a>x<b>y<c/></b></a>": 0, first + "\n<a>&amp;<b/></a>": 39} {
		refused(t, s, where, api.ErrElem)
	}
	refused(t, strings.Repeat("<a>", 13)+strings.Repeat("</a>", 13), 36, api.ErrDeep)
	refused(t, strings.Repeat("<a>", 12)+"<b/>"+strings.Repeat("</a>", 12), 36, api.ErrDeep)
	refused(t, strings.Repeat("<a>", 12)+"x<b/>", 37, api.ErrDeep)
	refused(t, "<a>"+strings.Repeat("<b/>", 1_000)+"</a>", 3+4*999, api.ErrBig)
	refused(t, "<a>"+strings.Repeat("<b></b>", 1_000)+"</a>", 3+7*999, api.ErrBig)
	if got, at, err := Parse("<a>" + strings.Repeat("<b/>", 999) + "</a>"); len(got) != 1_000 || at != 0 || err != api.OK {
		t.Errorf("P9.2: Parse of MaxNodes elements: %d nodes, %d, %d", len(got), at, err)
	}
	if got, at, err := Parse(strings.Repeat("<a>", 12) + strings.Repeat("</a>", 12)); len(got) != 12 || at != 0 || err != api.OK {
		t.Errorf("P9.2: Parse of MaxDepth elements: %d nodes, %d, %d", len(got), at, err)
	}
}

// It is Build of what Tokens tells: of all short texts of these pieces, and of a whole one with one byte of it away, or another.
func TestParseIsBuildOfTokens(t *testing.T) {
	compare := func(s string) {
		t.Helper()
		l, where, wrong := token.Tokens(s)
		var want []api.Node
		if wrong == api.OK {
			want, where, wrong = Build(l)
		}
		got, at, err := Parse(s)
		if at != where || err != wrong || !slices.EqualFunc(got, want, same) {
			t.Fatalf("P9.2: Parse(%q): %+v, %d, %d, not %+v, %d, %d", s, got, at, err, want, where, wrong)
		}
	}
	var longer func(s string, left int)
	longer = func(s string, left int) {
		compare(s)
		if left > 0 {
			for _, piece := range []string{"<a>", "<b xmlns='u'>", "<a b='c'/>", "</a>", "</b>", "x", " ", "&#10;", "<", "&"} {
				longer(s+piece, left-1)
			}
		}
	}
	longer("", 5)
	whole := first + "\n<a xmlns='u' b='c'>\n<d>é&amp;</d>\t<e xmlns='' f=\"g\"/><h><i/><i> </i></h> </a>\r\n"
	if got, _, err := Parse(whole); len(got) != 6 || err != api.OK {
		t.Fatalf("P9.2: Parse(%q): %d nodes, %d", whole, len(got), err)
	}
	for i := range whole {
		for c := range 256 {
			compare(whole[:i] + string([]byte{byte(c)}) + whole[i:])
			compare(whole[:i] + string([]byte{byte(c)}) + whole[i+1:])
		}
		for j := i; j <= len(whole); j++ {
			compare(whole[:i] + whole[j:])
		}
	}
}

// in are nodes with these Parents.
func in(parents ...int) []api.Node {
	var l []api.Node
	for _, p := range parents {
		l = append(l, api.Node{Parent: p})
	}
	return l
}

func TestKids(t *testing.T) {
	far := []int{-1 << 63, -1_000, -2, -1}
	above := []int{0, 1, 1_000, 1<<63 - 1}
	for _, r := range []struct {
		l    []api.Node
		kids [][]int
	}{
		{nil, nil},
		{in(-1), [][]int{nil}},
		{in(-1, 0), [][]int{{1}, nil}},
		{in(-1, 0, 1, 0, 0, 1), [][]int{{1, 3, 4}, {2, 5}, nil, nil, nil, nil}},
		{in(-1, 0, 1, 2, 3), [][]int{{1}, {2}, {3}, {4}, nil}},
		// Whatever the Parents are: the node's own place, one behind it, one that is no place.
		{in(0), [][]int{{0}}},
		{in(0, 1, 2), [][]int{{0}, {1}, {2}}},
		{in(1, 1, 0), [][]int{{2}, {0, 1}, nil}},
		{in(2, 2, -1), [][]int{nil, nil, {0, 1}}},
		{in(1, 0), [][]int{{1}, {0}}},
		{in(-1, -1, -1), [][]int{nil, nil, nil}},
		{in(-2, -1<<63, -3), [][]int{nil, nil, nil}},
		{in(3, 9, 1<<63-1), [][]int{nil, nil, nil}},
		{in(2, 2, 2, 3), [][]int{nil, nil, {0, 1, 2}, {3}}},
		{in(-1, 0, 4, 0, 0, -1, 6, 0), [][]int{{1, 3, 4, 7}, nil, nil, nil, {2}, nil, {6}, nil}},
	} {
		before := slices.Clone(r.l)
		for i, want := range r.kids {
			if got := Kids(r.l, i); !slices.Equal(got, want) {
				t.Errorf("P9.2: Kids(%+v, %d): %v, not %v", r.l, i, got, want)
			}
		}
		for _, i := range far {
			if got := Kids(r.l, i); len(got) != 0 {
				t.Errorf("P9.2: Kids(%+v, %d): %v", r.l, i, got)
			}
		}
		for _, more := range above {
			i := more
			if more < 1<<62 {
				i += len(r.l)
			}
			if got := Kids(r.l, i); len(got) != 0 {
				t.Errorf("P9.2: Kids(%+v, %d): %v", r.l, i, got)
			}
		}
		if !reflect.DeepEqual(r.l, before) {
			t.Errorf("P9.2: Kids changed what it was handed: %+v, not %+v", r.l, before)
		}
	}
	// Those behind the end of what is handed in are not asked.
	if got := Kids(in(-1, 0, 0, 0)[:2], 0); !slices.Equal(got, []int{1}) {
		t.Errorf("P9.2: Kids of the first two: %v", got)
	}
	// Names and all else play no part.
	if got := Kids([]api.Node{{Parent: -1, Name: "a"}, {Parent: 0, At: -1, Name: "b", Space: "u", Text: "x", Attrs: attrs("c", "d")}, {Parent: 1, Name: "a"}}, 0); !slices.Equal(got, []int{1}) {
		t.Errorf("P9.2: Kids of named ones: %v", got)
	}
}

// Who writes into what is told changes nothing of what is told again.
func TestKidsAreNew(t *testing.T) {
	l := in(-1, 0, 0, 1)
	got := Kids(l, 0)
	_ = append(got, 9)
	clear(got)
	if again, other := Kids(l, 0), Kids(l, 1); !slices.Equal(again, []int{1, 2}) || !slices.Equal(other, []int{3}) {
		t.Errorf("P9.2: Kids again: %v, %v", again, other)
	}
}

// The kids of all nodes of a tree are all its nodes but the first one, each once.
func TestKidsOfATree(t *testing.T) {
	l, _, _ := Parse("<a><b><c/><d><e/></d></b><f/><g><h/></g></a>")
	var all []int
	for i := range l {
		for _, kid := range Kids(l, i) {
			if l[kid].Parent != i {
				t.Errorf("P9.2: Kids: %d is told of %d, not of %d", kid, i, l[kid].Parent)
			}
			all = append(all, kid)
		}
		if !slices.IsSorted(Kids(l, i)) {
			t.Errorf("P9.2: Kids(%d) do not rise: %v", i, Kids(l, i))
		}
	}
	slices.Sort(all)
	if !slices.Equal(all, []int{1, 2, 3, 4, 5, 6, 7}) {
		t.Errorf("P9.2: Kids of all: %v", all)
	}
}

func TestAttr(t *testing.T) {
	for _, r := range []struct {
		l           []api.Attr
		name, value string
		is          bool
	}{
		{nil, "", "", false},
		{nil, "a", "", false},
		{attrs("a", "1"), "a", "1", true},
		{attrs("a", "1"), "b", "", false},
		{attrs("a", "1"), "", "", false},
		{attrs("a", "1"), "A", "", false},
		{attrs("A", "1"), "a", "", false},
		{attrs("a", "1"), "aa", "", false},
		{attrs("aa", "1"), "a", "", false},
		{attrs("a", "1"), "1", "", false},
		{attrs("a", "1", "b", "2", "c", "3"), "a", "1", true},
		{attrs("a", "1", "b", "2", "c", "3"), "b", "2", true},
		{attrs("a", "1", "b", "2", "c", "3"), "c", "3", true},
		{attrs("a", "1", "b", "2", "c", "3"), "d", "", false},
		{attrs("a", "1", "b", "2", "b", "3"), "b", "2", true},
		{attrs("b", "1", "a", "2", "b", "3"), "b", "1", true},
		{attrs("a", "", "a", "1"), "a", "", true},
		{attrs("a", ""), "a", "", true},
		{attrs("b", "1", "a", ""), "a", "", true},
		{attrs("", "1"), "", "1", true},
		{attrs("a", "1", "", "2", "", "3"), "", "2", true},
		{attrs("", ""), "", "", true},
		{attrs("xmlns", "u"), "xmlns", "u", true},
		{attrs("\xff", "\x00"), "\xff", "\x00", true},
		{attrs("é", "1"), "é", "1", true},
	} {
		before := slices.Clone(r.l)
		x := api.Node{Parent: 3, At: 4, Name: "a", Space: "u", Attrs: r.l, Text: "x"}
		if value, is := Attr(x, r.name); value != r.value || is != r.is {
			t.Errorf("P9.2: Attr(%+v, %q): %q, %v, not %q, %v", x, r.name, value, is, r.value, r.is)
		}
		if !slices.Equal(r.l, before) {
			t.Errorf("P9.2: Attr changed what it was handed: %+v, not %+v", r.l, before)
		}
	}
	many := slices.Repeat(attrs("a", "1"), 1_000)
	if value, is := Attr(api.Node{Attrs: slices.Concat(many, attrs("b", "2"))}, "b"); value != "2" || !is {
		t.Errorf("P9.2: Attr of the last of many: %q, %v", value, is)
	}
	// What is behind the end is not asked.
	if value, is := Attr(api.Node{Attrs: attrs("a", "1", "b", "2")[:1]}, "b"); value != "" || is {
		t.Errorf("P9.2: Attr of one behind the end: %q, %v", value, is)
	}
	// An element's namespace is none of its attributes.
	l, _, _ := Parse("<a xmlns='u' b=''/>")
	space, said := Attr(l[0], "xmlns")
	b, is := Attr(l[0], "b")
	if space != "" || said || b != "" || !is {
		t.Errorf("P9.2: Attr of what is parsed: %q, %v, %q, %v", space, said, b, is)
	}
}
