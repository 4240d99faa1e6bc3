package tree

import (
	"slices"
	"testing"

	"cardex/api"
)

// reading reads tokens by the words of P9.1, each element with all that stands in it, one within the other.
type reading struct {
	left  []api.Token
	opens []api.Token // that open the elements, in order
	nodes []api.Node
	texts []string
	outer map[int]bool // the elements that have elements in them
	at    int
	err   api.Errno
}

// wrong says what is wrong, and where.
func (r *reading) wrong(at int, err api.Errno) { r.at, r.err = at, err }

// within reads what stands in the element parent (-1: in none), with depth open, till it is closed.
func (r *reading) within(parent, depth int) {
	for len(r.left) > 0 && r.err == api.OK {
		next := r.left[0]
		r.left = r.left[1:]
		switch {
		case next.Kind == api.Open:
			r.element(next, parent, depth)
		case next.Kind == api.Close && (parent == -1 || r.nodes[parent].Name != next.Name):
			r.wrong(next.At, api.ErrTree)
		case next.Kind == api.Close:
			return
		case next.Kind == api.Text && parent >= 0:
			r.texts[parent] += next.Text
		case next.Kind == api.Text && !ofBlanks(next.Text):
			r.wrong(next.At, api.ErrTree)
		case next.Kind != api.Text:
			r.wrong(next.At, api.ErrToken)
		}
	}
	if r.err == api.OK && (parent >= 0 || len(r.nodes) == 0) {
		r.wrong(0, api.ErrTree)
	}
}

// element reads the element that begins with first.
func (r *reading) element(first api.Token, parent, depth int) {
	place := len(r.nodes)
	switch {
	case parent == -1 && place > 0:
		r.wrong(first.At, api.ErrTree)
	case depth == 12:
		r.wrong(first.At, api.ErrDeep)
	case place == 1_000:
		r.wrong(first.At, api.ErrBig)
	default:
		r.opens = append(r.opens, first)
		r.nodes = append(r.nodes, api.Node{Parent: parent, At: first.At, Name: first.Name})
		r.texts = append(r.texts, "")
		r.outer[parent] = true
		if !first.Empty {
			r.within(place, depth+1)
		}
	}
}

// space is the namespace of the element i: what the innermost one says that says one.
func (r *reading) space(i int) string {
	for ; i >= 0; i = r.nodes[i].Parent {
		for _, a := range r.opens[i].Attrs {
			if a.Name == "xmlns" {
				return a.Value
			}
		}
	}
	return ""
}

// ofBlanks tells whether all bytes of s are blanks.
func ofBlanks(s string) bool {
	for _, c := range []byte(s) {
		if c != 9 && c != 10 && c != 13 && c != 32 {
			return false
		}
	}
	return true
}

// told is what P9.1 says of Build, word by word.
func told(l []api.Token) ([]api.Node, int, api.Errno) {
	r := reading{left: l, outer: map[int]bool{}}
	r.within(-1, 0)
	for i := range r.nodes {
		if r.err == api.OK && r.outer[i] && !ofBlanks(r.texts[i]) {
			r.wrong(r.nodes[i].At, api.ErrElem)
		}
	}
	if r.err != api.OK {
		return nil, r.at, r.err
	}
	for i := range r.nodes {
		x := &r.nodes[i]
		x.Space = r.space(i)
		for _, a := range r.opens[i].Attrs {
			if a.Name != "xmlns" {
				x.Attrs = append(x.Attrs, a)
			}
		}
		if !r.outer[i] {
			x.Text = r.texts[i]
		}
	}
	return r.nodes, 0, api.OK
}

// same tells whether two nodes are.
func same(a, b api.Node) bool {
	return a.Parent == b.Parent && a.At == b.At && a.Name == b.Name && a.Space == b.Space && a.Text == b.Text && slices.Equal(a.Attrs, b.Attrs)
}

// hold holds what is answered of l against what is told of it, and that each node stands behind its parent.
func hold(t *testing.T, l []api.Token) {
	t.Helper()
	want, where, wrong := told(l)
	got, at, err := Build(l)
	if at != where || err != wrong || !slices.EqualFunc(got, want, same) {
		t.Fatalf("P9.1: Build(%+v): %+v, %d, %d, not %+v, %d, %d", l, got, at, err, want, where, wrong)
	}
	for i, x := range got {
		if x.Parent >= i {
			t.Fatalf("P9.1: Build(%+v): the node %d stands in %d", l, i, x.Parent)
		}
	}
}

// lists hands each list of at most most of signs, between first and last, to use; the places of the tokens neither rise nor fall.
func lists(first []api.Token, signs []api.Token, most int, last []api.Token, use func(l []api.Token)) {
	l := slices.Clone(first)
	var longer func(left int)
	longer = func(left int) {
		all := slices.Concat(l, last)
		for i := range all {
			all[i].At = (i*17+5)%23 - 2
		}
		use(all)
		if left == 0 {
			return
		}
		for _, sign := range signs {
			l = append(l, sign)
			longer(left - 1)
			l = l[:len(l)-1]
		}
	}
	longer(most)
}

func TestAllShortLists(t *testing.T) {
	use := func(l []api.Token) { hold(t, l) }
	lists(nil, []api.Token{open("a"), single("a"), end("a"), words("x"), words("\n")}, 7, nil, use)
	lists(nil, []api.Token{open("a"), open("b"), single("a"), end("a"), end("b"), words("x"), words(" "), words(""), {}}, 5, nil, use)
	lists(nil, []api.Token{open("a"), open(""), end("A"), end(""), end("a"), {Kind: 4, Name: "a"}, {Kind: -1}, words("\u00a0"), {Kind: api.Close, Name: "a", Empty: true}, {Kind: api.Close, Name: "a", Text: "x", Attrs: attrs("xmlns", "u")}, {Kind: api.Open, Name: "a", Text: "x"}, {Kind: api.Text, Name: "a", Text: "\t", Attrs: attrs("b", "c"), Empty: true}}, 4, nil, use)
}

// Within an element that is opened, and closed behind.
func TestAllShortInsides(t *testing.T) {
	use := func(l []api.Token) { hold(t, l) }
	lists([]api.Token{open("a", attrs("xmlns", "u", "b", "c")...)}, []api.Token{open("b"), single("a"), end("b"), end("a"), words("x"), words("\r"), words("")}, 5, []api.Token{end("a")}, use)
	lists([]api.Token{open("b"), words("\t"), open("a")}, []api.Token{open("b"), single("a"), end("b"), end("a"), words("é"), words(" ")}, 5, []api.Token{end("a"), end("b"), words("\n")}, use)
}

func TestAllNamespaces(t *testing.T) {
	use := func(l []api.Token) { hold(t, l) }
	signs := []api.Token{open("a"), open("a", attrs("xmlns", "u")...), open("a", attrs("b", "c", "xmlns", "v", "xmlns", "w", "b", "d")...), single("a", attrs("xmlns", "")...), single("a", attrs("xmlnsx", "y")...), end("a")}
	lists(nil, signs, 6, nil, use)
	for n := range 4 {
		lists([]api.Token{open("a", attrs("xmlns", "o")...), open("a")}, signs, 4, times(n, end("a")), use)
	}
}

// Where there are nearly as many open, or nearly as many nodes, as may be.
func TestNearTheLimits(t *testing.T) {
	use := func(l []api.Token) { hold(t, l) }
	signs := []api.Token{open("a"), single("a"), end("a"), words("x"), words(" "), {}}
	for n := 10; n <= 12; n++ {
		lists(times(n, open("a")), signs, 4, nil, use)
		lists(times(n, open("a")), signs[:4], 4, times(n, end("a")), use)
	}
	for n := 997; n <= 1_000; n++ {
		full := deep(1, times(n-1, single("a"))...)
		lists(full[:n], signs[:4], 3, []api.Token{end("a")}, use)
		lists(full, signs, 2, nil, use)
		// Both at once.
		full = list([]api.Token{open("a")}, times(n-11, single("a")), times(10, open("a")))
		lists(full, signs, 3, nil, use)
		lists(full, signs[:4], 3, times(11, end("a")), use)
	}
}

// A whole list with one token of it away, otherwise, twice, put in, or at another place.
func TestOneTokenOtherwise(t *testing.T) {
	whole := list(sample()[:9], deep(3, words("x")), []api.Token{words("\n")}, deep(1, deep(2)...), sample()[9:])
	for i := range whole {
		whole[i].At = 300 - 2*i
	}
	if got, at, err := Build(whole); len(got) != 10 || at != 0 || err != api.OK {
		t.Fatalf("P9.1: Build(%+v): %d nodes, %d, %d", whole, len(got), at, err)
	}
	for i := range whole {
		hold(t, whole[:i])
		hold(t, whole[i:])
		for j := i; j < len(whole); j++ {
			hold(t, slices.Concat(whole[:i], whole[j:]))
			hold(t, slices.Concat(whole[:j], whole[i:]))
			changed := slices.Clone(whole)
			changed[i], changed[j] = changed[j], changed[i]
			hold(t, changed)
		}
		for _, other := range []api.Token{open("a"), open("k"), single("a"), end("a"), end("k"), words("x"), words(" "), words(""), {}, {Kind: 4}, {Kind: -7, Name: "a"}, open("a", attrs("xmlns", "")...), single("a", attrs("xmlns", "q", "r", "s")...)} {
			other.At = 7
			hold(t, slices.Concat(whole[:i], []api.Token{other}, whole[i:]))
			hold(t, slices.Concat(whole[:i], []api.Token{other}, whole[i+1:]))
		}
	}
}
