package canon

import (
	"reflect"
	"regexp"
	"slices"
	"strings"
	"testing"
	"unicode/utf8"

	"cardex/api"
	"cardex/tree"
)

// toldName is a name, as token's chapter has it.
var toldName = regexp.MustCompile(`\A[A-Za-z_][A-Za-z0-9_.\-]*\z`)

// toldText tells whether s is text, as utf's chapter has it.
func toldText(s string) bool {
	for _, c := range s {
		if c < 32 && c != 9 && c != 10 && c != 13 || c == 65_534 || c == 65_535 {
			return false
		}
	}
	return utf8.ValidString(s)
}

// around are the places that are open where the node i of l begins, the innermost one first; all ahead of it stand where they may.
func around(l []api.Node, i int) []int {
	var all []int
	for place := i - 1; place >= 0; place = l[place].Parent {
		all = append(all, place)
	}
	return all
}

// toldPlace tells whether the node i of l stands where it may, if all ahead of it do.
func toldPlace(l []api.Node, i int) bool {
	if i == 0 {
		return l[0].Parent == -1
	}
	open := around(l, i)
	closed := slices.Index(open, l[i].Parent)
	return closed >= 0 && len(open)-closed+1 <= 12
}

// toldAttrs tells whether a node may have the attributes l.
func toldAttrs(l []api.Attr) bool {
	names := map[string]int{}
	for _, a := range l {
		names[a.Name]++
		if !toldName.MatchString(a.Name) || !toldText(a.Value) {
			return false
		}
	}
	return len(names) == len(l) && names["xmlns"] == 0 && len(l) <= 9
}

// toldRight is what P10.1 says of Right, word by word.
func toldRight(l []api.Node) bool {
	if len(l) == 0 || len(l) > 1_000 {
		return false
	}
	kids := map[int]int{}
	for i, x := range l {
		kids[x.Parent]++
		if !toldPlace(l, i) || !toldName.MatchString(x.Name) || !toldAttrs(x.Attrs) || !toldText(x.Text) || !toldText(x.Space) {
			return false
		}
	}
	for i, x := range l {
		if x.Text != "" && kids[i] > 0 {
			return false
		}
	}
	return true
}

// toldEscape is s as escape's chapter has it.
var toldEscape = strings.NewReplacer("&", "&amp;", "<", "&lt;", ">", "&gt;", "\"", "&quot;", "'", "&apos;", "\t", "&#9;", "\n", "&#10;", "\r", "&#13;").Replace

// toldWrite is what P10.1 says of Write of what is Right: node by node in order, each closed as soon as one comes that is not in it.
func toldWrite(l []api.Node) string {
	s := strings.Builder{}
	s.WriteString("<?xml version='1.0' encoding='UTF-8'?>\n")
	var open []int
	closed := func(till int) {
		for len(open) > 0 && open[len(open)-1] != till {
			s.WriteString("</" + l[open[len(open)-1]].Name + ">")
			open = open[:len(open)-1]
		}
	}
	for i, x := range l {
		closed(x.Parent)
		s.WriteString("<" + x.Name)
		if i == 0 && x.Space != "" || i > 0 && x.Space != l[x.Parent].Space {
			s.WriteString(" xmlns='" + toldEscape(x.Space) + "'")
		}
		for _, a := range x.Attrs {
			s.WriteString(" " + a.Name + "='" + toldEscape(a.Value) + "'")
		}
		switch {
		case i+1 < len(l) && l[i+1].Parent == i:
			s.WriteString(">")
			open = append(open, i)
		case x.Text != "":
			s.WriteString(">" + toldEscape(x.Text) + "</" + x.Name + ">")
		default:
			s.WriteString("/>")
		}
	}
	closed(-1)
	return s.String()
}

// same tells whether two nodes are, wherever they begin.
func same(a, b api.Node) bool {
	return a.Parent == b.Parent && a.Name == b.Name && a.Space == b.Space && a.Text == b.Text && slices.Equal(a.Attrs, b.Attrs)
}

// comesBack holds that what is written of l is parsed as it was.
func comesBack(t *testing.T, l []api.Node, s string) {
	t.Helper()
	got, at, err := tree.Parse(s)
	if len(s) > 20_000 {
		if err != api.ErrBig {
			t.Fatalf("P10.1: parsed again, %d bytes: %d", len(s), err)
		}
		return
	}
	if !slices.EqualFunc(got, l, same) || at != 0 || err != api.OK {
		t.Fatalf("P10.1: parsed again, %q: %+v, %d, %d, not %+v", s, got, at, err, l)
	}
}

// hold holds what is answered of l against what is told of it, and what is parsed again against l.
func hold(t *testing.T, l []api.Node) {
	t.Helper()
	want, wrong := "", api.ErrTree
	if toldRight(l) {
		want, wrong = toldWrite(l), api.OK
	}
	if Right(l) != (wrong == api.OK) {
		t.Fatalf("P10.1: Right(%+v): %v", l, Right(l))
	}
	got, err := Write(l)
	if got != want || err != wrong {
		t.Fatalf("P10.1: Write(%+v): %q, %d, not %q, %d", l, got, err, want, wrong)
	}
	if wrong == api.OK {
		comesBack(t, l, got)
	}
}

// behind hands each list of first and at most most nodes behind it to use, of all Parents in these.
func behind(first []api.Node, parents []int, most int, use func(l []api.Node)) {
	use(first)
	if most == 0 {
		return
	}
	for _, p := range parents {
		behind(append(slices.Clone(first), api.Node{Parent: p, At: 7 - len(first), Name: "b"}), parents, most-1, use)
	}
}

// trees hands each tree of at most most nodes to use.
func trees(most int, use func(l []api.Node)) {
	var more func(l []api.Node)
	more = func(l []api.Node) {
		use(l)
		if len(l) < most {
			for _, p := range around(l, len(l)) {
				more(append(slices.Clone(l), api.Node{Parent: p, Name: "b"}))
			}
		}
	}
	more([]api.Node{{Parent: -1, Name: "a"}})
}

// turned hands l to use with each of these changes of each node, in all ways.
func turned(l []api.Node, changes []func(x *api.Node), use func(l []api.Node)) {
	var next func(all []api.Node, i int)
	next = func(all []api.Node, i int) {
		if i == len(all) {
			use(all)
			return
		}
		for _, change := range changes {
			x := slices.Clone(all)
			change(&x[i])
			next(x, i+1)
		}
	}
	next(l, 0)
}

func TestAllShortParents(t *testing.T) {
	use := func(l []api.Node) { hold(t, l) }
	behind(nil, []int{-2, -1, 0, 1, 2, 3, 4, 5}, 5, use)
	behind(nil, []int{-1, 0, 1, 2, 3, 4}, 6, use)
	behind([]api.Node{{Parent: -1, Name: "a"}}, []int{0, 1, 2, 3, 4, 5}, 6, use)
}

func TestAllShapes(t *testing.T) {
	shapes := 0
	trees(9, func(l []api.Node) {
		shapes++
		hold(t, l)
	})
	if shapes != 1+1+2+5+14+42+132+429+1_430 {
		t.Errorf("%d shapes", shapes)
	}
}

func TestAllNamespaces(t *testing.T) {
	in := func(space string) func(x *api.Node) { return func(x *api.Node) { x.Space = space } }
	trees(6, func(l []api.Node) {
		turned(l, []func(x *api.Node){in(""), in("u"), in("v'")}, func(l []api.Node) { hold(t, l) })
	})
}

func TestAllTexts(t *testing.T) {
	says := func(text string) func(x *api.Node) { return func(x *api.Node) { x.Text = text } }
	trees(5, func(l []api.Node) {
		turned(l, []func(x *api.Node){says(""), says("x"), says(" "), says("\x1f")}, func(l []api.Node) { hold(t, l) })
	})
}

// Where there are nearly as many open, or nearly as many nodes, as may be.
func TestNearTheLimits(t *testing.T) {
	use := func(l []api.Node) { hold(t, l) }
	for n := 9; n <= 13; n++ {
		behind(chain(n), []int{-1, 0, n - 4, n - 3, n - 2, n - 1, n, n + 1, n + 2}, 4, use)
	}
	for n := 997; n <= 1_001; n++ {
		behind(wide(n), []int{-1, 0, 1, n - 2, n - 1, n, n + 1}, 2, use)
		// Both at once.
		l := slices.Concat(wide(n-11), chain(11))
		for i := n - 11; i < n; i++ {
			l[i].Parent = i - 1
		}
		l[n-11].Parent = 0
		behind(l, []int{0, n - 3, n - 2, n - 1, n, n + 1}, 2, use)
	}
}

// signs are such that a name's parts begin, go on, or end with.
var signs = []string{"a", "Z", "_", "0", "-", ".", ":", " ", "x", "\xc3", "é", "'", "\x00"}

func TestAllShortNames(t *testing.T) {
	var longer func(s string, left int)
	longer = func(s string, left int) {
		hold(t, []api.Node{{Parent: -1, Name: s}})
		hold(t, []api.Node{{Parent: -1, Name: "a", Attrs: []api.Attr{{Name: s, Value: "x"}}}})
		if left > 0 {
			for _, sign := range signs {
				longer(s+sign, left-1)
			}
		}
	}
	longer("", 4)
}

func TestAllShortAttrs(t *testing.T) {
	some := attrs("a", "1", "b", "2", "A", "", "a", "'", "xmlns", "u", "xmlnsa", "<", "", "", "b", "\x01", "c", "\xff")
	var longer func(l []api.Attr, left int)
	longer = func(l []api.Attr, left int) {
		hold(t, []api.Node{{Parent: -1, Name: "a", Attrs: l}})
		hold(t, []api.Node{{Parent: -1, Name: "a", Space: "u", Attrs: l}, {Parent: 0, Name: "b", Attrs: l}, {Parent: 0, Name: "c", Space: "u", Attrs: attrs("a", "9")}})
		if left > 0 {
			for _, a := range some {
				longer(append(slices.Clone(l), a), left-1)
			}
		}
	}
	longer(nil, 4)
}

// A whole tree with one of its nodes away, twice, at another place, put in, or otherwise in one thing.
func TestOneNodeOtherwise(t *testing.T) {
	whole := sample()
	if !Right(whole) || len(whole) != 12 {
		t.Fatalf("P10.1: Right(%+v): %v", whole, Right(whole))
	}
	texts := []string{"", "x", " ", "u", "v", "\x00", "\xff", "\ufffe", "xmlns", "a", "'"}
	for i := range whole {
		hold(t, whole[:i])
		hold(t, whole[i:])
		for j := range whole {
			hold(t, slices.Concat(whole[:i], whole[j:]))
			swapped := slices.Clone(whole)
			swapped[i], swapped[j] = swapped[j], swapped[i]
			hold(t, swapped)
			swapped[i].Parent, swapped[j].Parent = swapped[j].Parent, swapped[i].Parent
			hold(t, swapped)
			hold(t, slices.Insert(slices.Clone(whole), i, whole[j]))
		}
		for p := -3; p < 15; p++ {
			hold(t, with(whole, i, func(x *api.Node) { x.Parent = p }))
			hold(t, slices.Insert(slices.Clone(whole), i, api.Node{Parent: p, Name: "z"}))
		}
		for _, s := range texts {
			hold(t, with(whole, i, func(x *api.Node) { x.Name = s }))
			hold(t, with(whole, i, func(x *api.Node) { x.Space = s }))
			hold(t, with(whole, i, func(x *api.Node) { x.Text = s }))
			for k := range whole[i].Attrs {
				hold(t, with(whole, i, func(x *api.Node) { x.Attrs[k].Name = s }))
				hold(t, with(whole, i, func(x *api.Node) { x.Attrs[k].Value = s }))
			}
			for k := range len(whole[i].Attrs) + 1 {
				hold(t, with(whole, i, func(x *api.Node) { x.Attrs = slices.Insert(x.Attrs, k, api.Attr{Name: s, Value: "x"}) }))
			}
		}
		if !reflect.DeepEqual(whole, sample()) {
			t.Fatalf("the sample itself was changed: %+v", whole)
		}
	}
}
