package tree

import (
	"reflect"
	"slices"
	"strings"
	"testing"

	"cardex/api"
)

// open, single, end and words are tokens; where they stand is said later.
func open(name string, attrs ...api.Attr) api.Token {
	return api.Token{Kind: api.Open, Name: name, Attrs: attrs}
}

func single(name string, attrs ...api.Attr) api.Token {
	return api.Token{Kind: api.Open, Name: name, Attrs: attrs, Empty: true}
}

func end(name string) api.Token { return api.Token{Kind: api.Close, Name: name} }

func words(s string) api.Token { return api.Token{Kind: api.Text, Text: s} }

// attrs are attributes, each a name with its value behind it.
func attrs(l ...string) []api.Attr {
	var all []api.Attr
	for pair := range slices.Chunk(l, 2) {
		all = append(all, api.Attr{Name: pair[0], Value: pair[1]})
	}
	return all
}

// times are n times l.
func times(n int, l ...api.Token) []api.Token { return slices.Repeat(l, n) }

// list are several lists, one behind the other.
func list(l ...[]api.Token) []api.Token { return slices.Concat(l...) }

// deep is n elements, each in the one ahead, with l in the innermost one.
func deep(n int, l ...api.Token) []api.Token {
	return list(times(n, open("a")), l, times(n, end("a")))
}

// places are ways to say where the token i stands: what it is told is handed on, whatever it is.
var places = []func(i int) int{
	func(i int) int { return i },
	func(i int) int { return 1_000 + 3*i },
	func(i int) int { return 5_000 - 7*i },
	func(i int) int { return -1 - i },
	func(i int) int { return 0 },
	func(i int) int { return 42 },
	func(i int) int { return i * 5 % 13 },
}

// ahead are tokens that may stand ahead of all elements.
var ahead = [][]api.Token{nil, {words(" ")}, {words(""), words("\t\r\n")}}

// everywhere hands l to use, at all places, with all that may stand ahead, and tells how many tokens that is.
func everywhere(l []api.Token, use func(l []api.Token, more int)) {
	for _, place := range places {
		for _, first := range ahead {
			all := list(first, l)
			for i := range all {
				all[i].At = place(i)
			}
			use(all, len(first))
		}
	}
}

// are holds that l is a tree of these nodes; the At of each is written as which token of l opens it.
func are(t *testing.T, l []api.Token, want ...api.Node) {
	t.Helper()
	for _, behind := range ahead {
		everywhere(list(l, behind), func(l []api.Token, more int) {
			t.Helper()
			all := slices.Clone(want)
			for i := range all {
				all[i].At = l[all[i].At+more].At
			}
			got, at, err := Build(l)
			if !reflect.DeepEqual(got, all) || at != 0 || err != api.OK {
				t.Fatalf("P9.1: Build(%+v): %+v, %d, %d, not %+v", l, got, at, err, all)
			}
		})
	}
}

// atEnd is where a fault stands that none of the tokens has.
const atEnd = -1

// fails holds that nothing is told of l but that this token of it is wrong, and why.
func fails(t *testing.T, l []api.Token, which int, wrong api.Errno) {
	t.Helper()
	everywhere(l, func(l []api.Token, more int) {
		t.Helper()
		where := 0
		if which != atEnd {
			where = l[which+more].At
		}
		if got, at, err := Build(l); len(got) != 0 || at != where || err != wrong {
			t.Fatalf("P9.1: Build(%+v): %+v, %d, %d, not the error %d at %d alone", l, got, at, err, wrong, where)
		}
	})
}

// builds holds that there are n nodes of l.
func builds(t *testing.T, n int, l []api.Token) {
	t.Helper()
	everywhere(l, func(l []api.Token, more int) {
		t.Helper()
		if got, at, err := Build(l); len(got) != n || at != 0 || err != api.OK {
			t.Fatalf("P9.1: Build of %d tokens: %d nodes, %d, %d, not %d nodes", len(l), len(got), at, err, n)
		}
	})
}

func TestOrdinary(t *testing.T) {
	are(t, []api.Token{single("a")}, api.Node{Parent: -1, Name: "a"})
	are(t, []api.Token{open("a"), end("a")}, api.Node{Parent: -1, Name: "a"})
	are(t, []api.Token{open("a"), words("x"), end("a")}, api.Node{Parent: -1, Name: "a", Text: "x"})
	are(t, []api.Token{open("a", attrs("b", "c", "d", "e")...), end("a")}, api.Node{Parent: -1, Name: "a", Attrs: attrs("b", "c", "d", "e")})
	are(t, []api.Token{
		open("query", attrs("xmlns", "jabber:iq:roster")...), words("\n\t"), open("item", attrs("jid", "romeo@example.net", "name", "R & J")...), words("\n\t\t"),
		open("group"), words("Friends"), end("group"), open("group"), words("Lovers"), end("group"), words("\n\t"), end("item"),
		single("item", attrs("jid", "nurse@example.net")...), words("\n"), end("query"), words("\n"),
	},
		api.Node{Parent: -1, At: 0, Name: "query", Space: "jabber:iq:roster"},
		api.Node{Parent: 0, At: 2, Name: "item", Space: "jabber:iq:roster", Attrs: attrs("jid", "romeo@example.net", "name", "R & J")},
		api.Node{Parent: 1, At: 4, Name: "group", Space: "jabber:iq:roster", Text: "Friends"},
		api.Node{Parent: 1, At: 7, Name: "group", Space: "jabber:iq:roster", Text: "Lovers"},
		api.Node{Parent: 0, At: 12, Name: "item", Space: "jabber:iq:roster", Attrs: attrs("jid", "nurse@example.net")},
	)
}

func TestParents(t *testing.T) {
	are(t, []api.Token{open("a"), open("b"), single("c"), end("b"), open("d"), open("e"), end("e"), single("f"), end("d"), single("g"), end("a")},
		api.Node{Parent: -1, At: 0, Name: "a"},
		api.Node{Parent: 0, At: 1, Name: "b"},
		api.Node{Parent: 1, At: 2, Name: "c"},
		api.Node{Parent: 0, At: 4, Name: "d"},
		api.Node{Parent: 3, At: 5, Name: "e"},
		api.Node{Parent: 3, At: 7, Name: "f"},
		api.Node{Parent: 0, At: 9, Name: "g"},
	)
	// Of one name throughout.
	are(t, []api.Token{open("a"), open("a"), single("a"), end("a"), open("a"), end("a"), end("a")},
		api.Node{Parent: -1, At: 0, Name: "a"},
		api.Node{Parent: 0, At: 1, Name: "a"},
		api.Node{Parent: 1, At: 2, Name: "a"},
		api.Node{Parent: 0, At: 4, Name: "a"},
	)
	// Down, and up again over several.
	are(t, []api.Token{open("a"), open("b"), open("c"), open("d"), end("d"), end("c"), end("b"), open("e"), end("e"), end("a")},
		api.Node{Parent: -1, At: 0, Name: "a"},
		api.Node{Parent: 0, At: 1, Name: "b"},
		api.Node{Parent: 1, At: 2, Name: "c"},
		api.Node{Parent: 2, At: 3, Name: "d"},
		api.Node{Parent: 0, At: 7, Name: "e"},
	)
}

func TestNoElement(t *testing.T) {
	for _, l := range [][]api.Token{nil, {}, {words("")}, {words(" ")}, {words("\n"), words("\t"), words("\r"), words(" ")}, times(2_000, words(" "))} {
		fails(t, l, atEnd, api.ErrTree)
	}
}

func TestBehindTheFirstElement(t *testing.T) {
	for _, first := range [][]api.Token{{single("a")}, {open("a"), end("a")}, {open("a"), single("b"), end("a")}, {open("a"), words("x"), end("a")}, deep(12), list([]api.Token{open("a")}, times(999, single("b")), []api.Token{end("a")})} {
		for _, blank := range [][]api.Token{nil, {words("\n")}, {words(""), words(" ")}} {
			all := list(first, blank)
			for _, more := range []api.Token{open("a"), single("a"), open("b"), open(""), single("b", attrs("xmlns", "u")...)} {
				fails(t, list(all, []api.Token{more}), len(all), api.ErrTree)
				fails(t, list(all, []api.Token{more, end("a")}), len(all), api.ErrTree)
				fails(t, list(all, []api.Token{more, {Kind: 9}}), len(all), api.ErrTree)
			}
			// Whatever is wrong besides.
			fails(t, list(all, deep(13)), len(all), api.ErrTree)
			fails(t, list(all, times(1_001, single("b"))), len(all), api.ErrTree)
			fails(t, list(all, []api.Token{end("a")}), len(all), api.ErrTree)
			fails(t, list(all, []api.Token{words("x")}), len(all), api.ErrTree)
			fails(t, list(all, []api.Token{{Kind: 9}}), len(all), api.ErrToken)
		}
	}
	// An element that would be ErrElem does not count ahead of what a token has.
	fails(t, []api.Token{open("a"), words("x"), single("b"), end("a"), single("c")}, 4, api.ErrTree)
}

func TestClose(t *testing.T) {
	for _, name := range []string{"a", "b", "", "A", "a "} {
		fails(t, []api.Token{end(name)}, 0, api.ErrTree)
		fails(t, []api.Token{end(name), single("a")}, 0, api.ErrTree)
		fails(t, []api.Token{end(name), open(name), end(name)}, 0, api.ErrTree)
		fails(t, []api.Token{single("a"), end(name)}, 1, api.ErrTree)
		fails(t, []api.Token{open("a"), end("a"), end(name)}, 2, api.ErrTree)
		if name != "a" {
			fails(t, []api.Token{open("a"), end(name)}, 1, api.ErrTree)
			fails(t, []api.Token{open("a"), end(name), end("a")}, 1, api.ErrTree)
			fails(t, []api.Token{open(name), end("a")}, 1, api.ErrTree)
			fails(t, []api.Token{open(name), open("a"), end(name)}, 2, api.ErrTree)
			fails(t, []api.Token{open(name), open("a"), end(name), end("a")}, 2, api.ErrTree)
			fails(t, []api.Token{open(name), single("a"), end("a")}, 2, api.ErrTree)
			fails(t, []api.Token{open(name), open("a"), end("a"), end("a")}, 3, api.ErrTree)
			fails(t, []api.Token{open(name), single("a"), open("a"), end("a"), end("a")}, 4, api.ErrTree)
		}
	}
	// One too many, and one too few.
	for n := 1; n <= api.MaxDepth; n++ {
		builds(t, n, deep(n))
		fails(t, list(deep(n), []api.Token{end("a")}), 2*n, api.ErrTree)
		fails(t, deep(n)[:2*n-1], atEnd, api.ErrTree)
		fails(t, times(n, open("a")), atEnd, api.ErrTree)
		fails(t, list(times(n, open("a")), []api.Token{words(" ")}), atEnd, api.ErrTree)
	}
	// Names that part in capitals, in a blank, or in what is behind.
	for _, name := range []string{"A", "ab", "", " a", "a ", "á", "a\x00"} {
		fails(t, []api.Token{open("a"), end(name)}, 1, api.ErrTree)
		are(t, []api.Token{open(name), end(name)}, api.Node{Parent: -1, Name: name})
	}
}

func TestHowDeep(t *testing.T) {
	for _, more := range [][]api.Token{{open("a"), end("a")}, {single("a")}, {open("b"), words("x"), end("b")}} {
		builds(t, 12, deep(11, more...))
		fails(t, deep(12, more...), 12, api.ErrDeep)
		fails(t, deep(12, list([]api.Token{words(" ")}, more)...), 13, api.ErrDeep)
		fails(t, deep(12, list([]api.Token{words("x")}, more)...), 13, api.ErrDeep)
	}
	fails(t, deep(13), 12, api.ErrDeep)
	fails(t, deep(100), 12, api.ErrDeep)
	fails(t, times(2_000, open("a")), 12, api.ErrDeep)
	// Those that are closed, or never open, do not count.
	builds(t, 11+2*20, deep(11, times(20, single("b"), open("c"), end("c"))...))
	builds(t, 1+2*11, deep(1, times(2, deep(11)...)...))
	fails(t, deep(1, list(deep(11), deep(12))...), 1+22+11, api.ErrDeep)
	// Ahead of there being too many nodes.
	full := list([]api.Token{open("a")}, times(988, single("b")), times(11, open("a")))
	builds(t, 1_000, list(full, times(12, end("a"))))
	for _, more := range []api.Token{open("a"), single("a")} {
		fails(t, list(full, []api.Token{more}), 1_000, api.ErrDeep)
		fails(t, list(full, []api.Token{end("a"), more}), 1_001, api.ErrBig)
	}
}

// opens is which token of l is its Open n.
func opens(l []api.Token, n int) int {
	for i, x := range l {
		if x.Kind == api.Open {
			if n == 0 {
				return i
			}
			n--
		}
	}
	return atEnd
}

func TestHowManyNodes(t *testing.T) {
	for _, one := range [][]api.Token{{single("b")}, {open("b"), end("b")}, {open("b"), words("x"), end("b")}, {words(" "), single("b"), words("\n")}} {
		builds(t, 1_000, deep(1, times(999, one...)...))
		builds(t, 1_000, deep(11, times(989, one...)...))
		chains := list(times(90, deep(11)...), times(9, one...))
		builds(t, 1_000, deep(1, chains...))
		for _, l := range [][]api.Token{deep(1, times(1_000, one...)...), deep(1, times(3_000, one...)...), deep(11, times(990, one...)...), deep(1, list(chains, one)...), deep(1, list(chains, deep(11))...), deep(1, list(one, chains)...)} {
			fails(t, l, opens(l, 1_000), api.ErrBig)
			// What is wrong behind it, or in the end, does not count.
			fails(t, l[:opens(l, 1_000)+1], opens(l, 1_000), api.ErrBig)
			fails(t, list(l, []api.Token{{Kind: 9}}), opens(l, 1_000), api.ErrBig)
		}
	}
	// Texts and ends are no nodes.
	builds(t, 1, deep(1, times(3_000, words("x"))...))
	builds(t, 3, deep(1, list([]api.Token{single("a")}, times(3_000, words(" ")), []api.Token{single("a")})...))
	fails(t, list(deep(1), times(3_000, end("a"))), 2, api.ErrTree)
	// A thousand that are told do not save what is wrong in the end.
	fails(t, deep(1, times(999, single("b"))...)[:1_000], atEnd, api.ErrTree)
	fails(t, deep(1, list(times(999, single("b")), []api.Token{words("x")})...), 0, api.ErrElem)
}

// others are texts that are not of blanks.
var others = []string{"x", "é", "0", "\x00", "\v", "\f", "\x7f", "\u0085", "\u00a0", "\u2028", "\u3000", "\ufeff", "\xff", "\x80", " x", "x ", " x ", "\n.\n", " \u00a0 ", "\t\r\n \x1f", "&", "<a/>"}

// spaces are texts that are.
var spaces = []string{"", " ", "\t", "\n", "\r", "  ", "\r\n", " \t\r\n ", strings.Repeat("\n\t ", 500)}

func TestWords(t *testing.T) {
	for _, s := range spaces {
		// Outside of all elements they are passed over.
		are(t, []api.Token{words(s), single("a"), words(s), words(s)}, api.Node{Parent: -1, At: 1, Name: "a"})
		are(t, []api.Token{words(s), words(s), open("a"), words("x"), end("a"), words(s)}, api.Node{Parent: -1, At: 2, Name: "a", Text: "x"})
		// In one without elements they are its text.
		are(t, []api.Token{open("a"), words(s), end("a")}, api.Node{Parent: -1, Name: "a", Text: s})
		are(t, []api.Token{open("a"), words(s), words("x"), words(s), end("a")}, api.Node{Parent: -1, Name: "a", Text: s + "x" + s})
		// Ahead of elements, between and behind them they are none.
		are(t, []api.Token{open("a"), words(s), single("b"), words(s), open("c"), words(s), end("c"), words(s), words(s), end("a")},
			api.Node{Parent: -1, At: 0, Name: "a"}, api.Node{Parent: 0, At: 2, Name: "b"}, api.Node{Parent: 0, At: 4, Name: "c", Text: s})
		for _, l := range [][]api.Token{{words(s), single("b")}, {single("b"), words(s)}, {single("b"), words(s), single("b")}} {
			if got, _, _ := Build(deep(1, l...)); len(got) == 0 || got[0].Text != "" {
				t.Errorf("P9.1: Build of an element in an element, and %q: %+v", s, got)
			}
		}
	}
	for _, s := range others {
		fails(t, []api.Token{words(s)}, 0, api.ErrTree)
		fails(t, []api.Token{words(s), single("a")}, 0, api.ErrTree)
		fails(t, []api.Token{words(""), words(s), single("a")}, 1, api.ErrTree)
		fails(t, []api.Token{single("a"), words(s)}, 1, api.ErrTree)
		fails(t, []api.Token{open("a"), words(s), end("a"), words(s)}, 3, api.ErrTree)
		fails(t, []api.Token{open("a"), end("a"), words(" "), words(s), end("b")}, 3, api.ErrTree)
		are(t, []api.Token{open("a"), words(s), end("a")}, api.Node{Parent: -1, Name: "a", Text: s})
		are(t, []api.Token{open("a"), words(s), words(""), words("y"), words(s), words(" "), end("a")}, api.Node{Parent: -1, Name: "a", Text: s + "y" + s + " "})
		are(t, []api.Token{open("a"), open("b"), words(s), end("b"), open("b"), words(s), words(s), end("b"), end("a")},
			api.Node{Parent: -1, At: 0, Name: "a"}, api.Node{Parent: 0, At: 1, Name: "b", Text: s}, api.Node{Parent: 0, At: 4, Name: "b", Text: s + s})
	}
}

// Each byte, alone and among blanks: four are blanks, and no other.
func TestEachSign(t *testing.T) {
	for c := range 256 {
		sign := string([]byte{byte(c)})
		blank := c == 9 || c == 10 || c == 13 || c == 32
		for _, s := range []string{sign, sign + " ", "\n" + sign, sign + sign} {
			beside := []api.Token{open("a"), words(s), single("b"), end("a")}
			if blank {
				are(t, []api.Token{words(s), single("a"), words(s)}, api.Node{Parent: -1, At: 1, Name: "a"})
				are(t, beside, api.Node{Parent: -1, Name: "a"}, api.Node{Parent: 0, At: 2, Name: "b"})
			} else {
				fails(t, []api.Token{words(s), single("a")}, 0, api.ErrTree)
				fails(t, []api.Token{single("a"), words(s)}, 1, api.ErrTree)
				fails(t, beside, 0, api.ErrElem)
			}
			are(t, []api.Token{open("a"), words(s), end("a")}, api.Node{Parent: -1, Name: "a", Text: s})
		}
	}
}

func TestWordsBesideElements(t *testing.T) {
	for _, s := range others {
		for _, kid := range [][]api.Token{{single("b")}, {open("b"), end("b")}, {open("b"), words("x"), end("b")}, {single("b"), words(" "), single("c")}} {
			for _, l := range [][]api.Token{
				list([]api.Token{words(s)}, kid),
				list(kid, []api.Token{words(s)}),
				list(kid, []api.Token{words(s)}, kid),
				list([]api.Token{words(" "), words(s), words("\n")}, kid),
				list(kid, []api.Token{words(" "), words(""), words(s)}),
			} {
				fails(t, deep(1, l...), 0, api.ErrElem)
				fails(t, deep(2, l...), 1, api.ErrElem)
				fails(t, deep(11, l...), 10, api.ErrElem)
				// Behind others that are right.
				fails(t, deep(1, list([]api.Token{single("c"), open("d"), words("x"), end("d")}, deep(1, l...))...), 5, api.ErrElem)
				// Of several, the first one that was opened.
				fails(t, deep(1, list([]api.Token{words("x")}, deep(1, l...))...), 0, api.ErrElem)
				fails(t, deep(1, list(deep(1, l...), []api.Token{words("x")})...), 0, api.ErrElem)
				fails(t, deep(1, list(deep(1, l...), deep(1, l...))...), 1, api.ErrElem)
				fails(t, deep(2, list(deep(2, l...), deep(1, l...), []api.Token{words("x")})...), 1, api.ErrElem)
				// What a token has, and that not all are closed, is told ahead of it.
				all := deep(1, l...)
				fails(t, all[:len(all)-1], atEnd, api.ErrTree)
				fails(t, list(all, []api.Token{words("y")}), len(all), api.ErrTree)
				fails(t, list(all, []api.Token{end("a")}), len(all), api.ErrTree)
				fails(t, list(all, []api.Token{single("a")}), len(all), api.ErrTree)
				fails(t, list(all, []api.Token{{}}), len(all), api.ErrToken)
				fails(t, list(all[:len(all)-1], []api.Token{end("b"), end("a")}), len(all)-1, api.ErrTree)
				fails(t, list(all[:len(all)-1], times(12, open("a"))), len(all)-1+11, api.ErrDeep)
			}
		}
	}
	// Words in an element are not those of the one that it stands in.
	are(t, []api.Token{open("a"), open("b"), words("x"), end("b"), end("a")}, api.Node{Parent: -1, Name: "a"}, api.Node{Parent: 0, At: 1, Name: "b", Text: "x"})
}

func TestOtherKinds(t *testing.T) {
	for _, kind := range []int{0, 4, 5, -1, -2, -3, 100, 257, 258, 259, 1 << 31, 1<<32 + 1, 1<<62 + 2, -1 << 63} {
		for _, other := range []api.Token{{Kind: kind}, {Kind: kind, Name: "a", Text: " ", Empty: true}, {Kind: kind, Name: "a", Text: "x", Attrs: attrs("xmlns", "u")}} {
			one := []api.Token{other}
			fails(t, one, 0, api.ErrToken)
			fails(t, list(one, []api.Token{single("a")}), 0, api.ErrToken)
			fails(t, []api.Token{single("a"), other}, 1, api.ErrToken)
			fails(t, []api.Token{words(" "), other, single("a")}, 1, api.ErrToken)
			fails(t, []api.Token{open("a"), other, end("a")}, 1, api.ErrToken)
			fails(t, []api.Token{open("a"), other}, 1, api.ErrToken)
			fails(t, list(deep(12), one), 24, api.ErrToken)
			fails(t, deep(12, other), 12, api.ErrToken)
			fails(t, deep(1, list(times(999, single("b")), one)...), 1_000, api.ErrToken)
			// The one ahead counts.
			fails(t, []api.Token{end("a"), other}, 0, api.ErrTree)
			fails(t, []api.Token{other, end("a")}, 0, api.ErrToken)
			fails(t, []api.Token{words("x"), other}, 0, api.ErrTree)
			fails(t, []api.Token{other, words("x")}, 0, api.ErrToken)
			fails(t, list(times(13, open("a")), one), 12, api.ErrDeep)
		}
	}
}

func TestSpaces(t *testing.T) {
	u, v, none := attrs("xmlns", "u"), attrs("xmlns", "v"), attrs("xmlns", "")
	are(t, []api.Token{single("a", u...)}, api.Node{Parent: -1, Name: "a", Space: "u"})
	are(t, []api.Token{single("a", none...)}, api.Node{Parent: -1, Name: "a"})
	are(t, []api.Token{open("a", u...), words("x"), end("a")}, api.Node{Parent: -1, Name: "a", Space: "u", Text: "x"})
	// Through several; another one within, and the outer one again behind it; none within another one.
	are(t, []api.Token{open("a", u...), open("b"), single("c"), open("d", v...), single("e"), single("f", u...), open("g", none...), single("h"), end("g"), single("i"), end("d"), single("j"), end("b"), single("k", none...), single("l"), end("a")},
		api.Node{Parent: -1, At: 0, Name: "a", Space: "u"},
		api.Node{Parent: 0, At: 1, Name: "b", Space: "u"},
		api.Node{Parent: 1, At: 2, Name: "c", Space: "u"},
		api.Node{Parent: 1, At: 3, Name: "d", Space: "v"},
		api.Node{Parent: 3, At: 4, Name: "e", Space: "v"},
		api.Node{Parent: 3, At: 5, Name: "f", Space: "u"},
		api.Node{Parent: 3, At: 6, Name: "g"},
		api.Node{Parent: 6, At: 7, Name: "h"},
		api.Node{Parent: 3, At: 9, Name: "i", Space: "v"},
		api.Node{Parent: 1, At: 11, Name: "j", Space: "u"},
		api.Node{Parent: 0, At: 13, Name: "k"},
		api.Node{Parent: 0, At: 14, Name: "l", Space: "u"},
	)
	// The one beside is not the one that it stands in; nor does one within count for the one around.
	are(t, []api.Token{open("a"), single("b", u...), single("c"), open("d", v...), end("d"), single("e"), end("a")},
		api.Node{Parent: -1, At: 0, Name: "a"},
		api.Node{Parent: 0, At: 1, Name: "b", Space: "u"},
		api.Node{Parent: 0, At: 2, Name: "c"},
		api.Node{Parent: 0, At: 3, Name: "d", Space: "v"},
		api.Node{Parent: 0, At: 5, Name: "e"},
	)
	// Said several times: the first one counts, and none of them is among the attributes.
	are(t, []api.Token{open("a", attrs("xmlns", "u", "xmlns", "v", "xmlns", "")...), single("b", attrs("c", "d", "xmlns", "", "e", "f", "xmlns", "v", "g", "h")...), single("i"), end("a")},
		api.Node{Parent: -1, At: 0, Name: "a", Space: "u"},
		api.Node{Parent: 0, At: 1, Name: "b", Attrs: attrs("c", "d", "e", "f", "g", "h")},
		api.Node{Parent: 0, At: 2, Name: "i", Space: "u"},
	)
	// Any text may be one.
	for _, s := range []string{" ", "é", "\x00", "\xff", "jabber:iq:roster", "xmlns", strings.Repeat("u", 30_000)} {
		are(t, []api.Token{open("a", attrs("xmlns", s)...), single("b"), end("a")}, api.Node{Parent: -1, Name: "a", Space: s}, api.Node{Parent: 0, At: 1, Name: "b", Space: s})
	}
}

func TestAttrs(t *testing.T) {
	// Only what is xmlns, to the letter, is left out; the others stay in their order, those of one name too.
	for _, name := range []string{"xmlns.a", "xmlns-", "xmlns_", "xmlnsx", "xmlns:a", "xmlns ", " xmlns", "XMLNS", "Xmlns", "xmln", "xml", "mlns", "axmlns", ""} {
		are(t, []api.Token{open("a", attrs(name, "u")...), single("b"), end("a")}, api.Node{Parent: -1, Name: "a", Attrs: attrs(name, "u")}, api.Node{Parent: 0, At: 1, Name: "b"})
		are(t, []api.Token{open("a", attrs("b", "1", name, "2", "xmlns", "u", name, "3", "b", "4", name, "")...), end("a")},
			api.Node{Parent: -1, Name: "a", Space: "u", Attrs: attrs("b", "1", name, "2", name, "3", "b", "4", name, "")})
	}
	are(t, []api.Token{single("a", attrs("c", "1", "b", "2", "a", "3")...)}, api.Node{Parent: -1, Name: "a", Attrs: attrs("c", "1", "b", "2", "a", "3")})
	are(t, []api.Token{single("a", attrs("b", "1", "b", "1", "b", "1")...)}, api.Node{Parent: -1, Name: "a", Attrs: attrs("b", "1", "b", "1", "b", "1")})
	// What an element has is not what the one within it has.
	are(t, []api.Token{open("a", attrs("b", "1")...), single("c", attrs("d", "2")...), single("e"), end("a")},
		api.Node{Parent: -1, Name: "a", Attrs: attrs("b", "1")}, api.Node{Parent: 0, At: 1, Name: "c", Attrs: attrs("d", "2")}, api.Node{Parent: 0, At: 2, Name: "e"})
	// How many there are is token's.
	many := slices.Repeat(attrs("b", "1"), 1_000)
	are(t, []api.Token{single("a", many...)}, api.Node{Parent: -1, Name: "a", Attrs: many})
	are(t, []api.Token{single("a", slices.Concat(many, attrs("xmlns", "u"), many)...)}, api.Node{Parent: -1, Name: "a", Space: "u", Attrs: slices.Concat(many, many)})
}

// Tokens that no text tells: what a sentence does not speak of plays no part.
func TestTokensOfNoText(t *testing.T) {
	are(t, []api.Token{{Kind: api.Open, Text: "x"}, {Kind: api.Close, Text: "y", Attrs: attrs("xmlns", "u", "b", "c"), Empty: true}}, api.Node{Parent: -1})
	are(t, []api.Token{{Kind: api.Open, Name: "a", Text: "x", Empty: true}, {Kind: api.Text, Name: "b", Text: " ", Attrs: attrs("xmlns", "u"), Empty: true}}, api.Node{Parent: -1, Name: "a"})
	are(t, []api.Token{{Kind: api.Open, Name: "a"}, {Kind: api.Text, Name: "a", Text: "x", Attrs: attrs("xmlns", "u", "b", "c"), Empty: true}, {Kind: api.Close, Name: "a"}}, api.Node{Parent: -1, Name: "a", Text: "x"})
	are(t, []api.Token{{Kind: api.Open, Name: "a", Text: "x"}, {Kind: api.Open, Name: "b", Text: "y", Empty: true}, {Kind: api.Close, Name: "a", Text: "z"}}, api.Node{Parent: -1, Name: "a"}, api.Node{Parent: 0, At: 1, Name: "b"})
	for _, name := range []string{"", " ", "\x00", "\xff", "<", "é", "a b", "/", strings.Repeat("n", 30_000)} {
		are(t, []api.Token{open(name), single(name), words("\n"), end(name)}, api.Node{Parent: -1, Name: name}, api.Node{Parent: 0, At: 1, Name: name})
	}
	// The end of an element that is Empty is no end of it, nor an Open.
	fails(t, []api.Token{{Kind: api.Close, Name: "a", Empty: true}}, 0, api.ErrTree)
	fails(t, []api.Token{{Kind: api.Close, Empty: true}}, 0, api.ErrTree)
	fails(t, []api.Token{single("a"), end("a")}, 1, api.ErrTree)
	long := strings.Repeat("é\xff ", 30_000)
	are(t, []api.Token{open("a"), words(long), words(long), end("a")}, api.Node{Parent: -1, Name: "a", Text: long + long})
}

func TestManyTexts(t *testing.T) {
	want := strings.Repeat("ab ", 200_000)
	got, at, err := Build(deep(2, times(200_000, words("a"), words("b"), words(" "))...))
	if len(got) != 2 || got[0].Text != "" || got[1].Text != want || at != 0 || err != api.OK {
		t.Errorf("P9.1: Build of many texts: %d nodes, %d, %d", len(got), at, err)
	}
}

// sample is a list with all kinds of tokens.
func sample() []api.Token {
	return []api.Token{words("\n"), open("a", attrs("xmlns", "u", "b", "c", "xmlns", "v", "d", "e")...), words(" "), single("f", attrs("g", "h", "i", "j")...), open("k", attrs("l", "m", "xmlns", "w")...), words("x"), words("y"), end("k"), single("n", attrs("xmlns", "z")...), end("a"), words(" ")}
}

// roomy is l with tokens behind its end, and attributes behind those of each token: all of it, as it is in memory.
func roomy(l []api.Token) []api.Token {
	all := append(slices.Clone(l), single("spare"), words("spare"))
	for i := range all {
		all[i].Attrs = append(slices.Clone(all[i].Attrs), attrs("spare", "1", "spare", "2")...)
	}
	return all
}

// What is handed in is not changed, nor what is behind its end.
func TestHandedInStays(t *testing.T) {
	for _, l := range [][]api.Token{sample(), list(sample(), sample()), deep(13), {open("a"), words("x"), single("b"), end("a")}, {words("x")}, {{}}, nil} {
		all, want := roomy(l), roomy(l)
		in := slices.Clone(all)
		for i := range in {
			in[i].Attrs = in[i].Attrs[:len(in[i].Attrs)-2]
		}
		before := slices.Clone(in)
		got, _, _ := Build(in[:len(l)])
		for i := range got {
			got[i].Attrs = append(got[i].Attrs, attrs("z", "z")...)
			clear(got[i].Attrs)
		}
		if !reflect.DeepEqual(in, before) || !reflect.DeepEqual(all, want) {
			t.Errorf("P9.1: Build changed what it was handed: %+v, not %+v", all, want)
		}
	}
}

// What is handed out is new memory: who writes into it, or behind it, changes nothing else.
func TestNewMemory(t *testing.T) {
	l := sample()
	want, _, _ := Build(sample())
	got, _, _ := Build(l)
	for i := range l {
		for j := range l[i].Attrs {
			l[i].Attrs[j] = api.Attr{Name: "z", Value: "z"}
		}
	}
	clear(l)
	if !reflect.DeepEqual(got, want) {
		t.Fatalf("P9.1: writing into what was handed in changed what was told: %+v, not %+v", got, want)
	}
	for i := range got {
		for j := range got[i].Attrs {
			got[i].Attrs[j] = api.Attr{Name: "z", Value: "z"}
		}
		_ = append(got[i].Attrs, attrs("y", "y")...)
		for k := range got {
			if k > i && !reflect.DeepEqual(got[k], want[k]) {
				t.Fatalf("P9.1: writing into the attributes of the node %d changed the node %d: %+v", i, k, got[k])
			}
		}
	}
	clear(got)
	if again, _, _ := Build(sample()); !reflect.DeepEqual(again, want) {
		t.Errorf("P9.1: Build again: %+v, not %+v", again, want)
	}
}

// Each node stands behind its parent, and only the first one has none.
func TestBehindTheParent(t *testing.T) {
	for _, l := range [][]api.Token{sample(), deep(12), deep(1, times(90, deep(11)...)...), deep(3, times(300, single("b"), open("c"), single("d"), end("c"))...)} {
		got, _, err := Build(l)
		if len(got) == 0 || err != api.OK {
			t.Errorf("P9.1: Build: %d nodes, %d", len(got), err)
		}
		for i, x := range got {
			if x.Parent >= i || x.Parent < 0 != (i == 0) || x.Parent < -1 {
				t.Errorf("P9.1: Build: the node %d stands in %d", i, x.Parent)
			}
		}
	}
}
