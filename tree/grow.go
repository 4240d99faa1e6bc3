package tree

import (
	"strings"

	"cardex/api"
)

// blanks are the signs that may stand between elements.
const blanks = "\t\n\r "

// namespace is the attribute that says what namespace an element is in.
const namespace = "xmlns"

// growing is a tree that is built token by token.
type growing struct {
	elements []element
	open     stack[int] // the places of the elements that are open
}

// element is a node, and what was told within it so far.
type element struct {
	node  api.Node
	texts []string
	outer bool // is there an element in it?
}

// take lets the tree grow by t.
func (g *growing) take(t api.Token) api.Errno {
	switch t.Kind {
	case api.Open:
		return g.begin(t)
	case api.Close:
		return g.end(t.Name)
	case api.Text:
		return g.say(t.Text)
	}
	return api.ErrToken
}

// begin opens an element.
func (g *growing) begin(t api.Token) api.Errno {
	switch {
	case g.whole():
		return api.ErrTree
	case g.open.height() == api.MaxDepth:
		return api.ErrDeep
	case len(g.elements) == api.MaxNodes:
		return api.ErrBig
	}
	place := len(g.elements)
	g.elements = append(g.elements, element{node: g.node(t)})
	if parent, within := g.open.top(); within {
		g.elements[parent].outer = true
	}
	if !t.Empty {
		g.open.put(place)
	}
	return api.OK
}

// node is the node of an element that t opens now.
func (g *growing) node(t api.Token) api.Node {
	x := api.Node{Parent: -1, At: t.At, Name: t.Name}
	if parent, within := g.open.top(); within {
		x.Parent, x.Space = parent, g.elements[parent].node.Space
	}
	if own, said := value(t.Attrs, namespace); said {
		x.Space = own
	}
	for _, a := range t.Attrs {
		if a.Name != namespace {
			x.Attrs = append(x.Attrs, a)
		}
	}
	return x
}

// end closes the innermost element, if it is of that name.
func (g *growing) end(name string) api.Errno {
	place, within := g.open.top()
	if !within || g.elements[place].node.Name != name {
		return api.ErrTree
	}
	g.open.take()
	return api.OK
}

// say puts a text into the innermost element.
func (g *growing) say(s string) api.Errno {
	place, within := g.open.top()
	switch {
	case within:
		g.elements[place].texts = append(g.elements[place].texts, s)
	case !blank(s):
		return api.ErrTree
	}
	return api.OK
}

// whole tells whether there is an element, and all are closed.
func (g *growing) whole() bool { return len(g.elements) > 0 && g.open.height() == 0 }

// mixed tells whether there are elements beside words in e.
// It can be told of a whole tree alone, as an element may come behind the words.
func (e *element) mixed() bool { return e.outer && !blank(e.text()) }

// text is what was told within e, but in the elements in it.
func (e *element) text() string { return strings.Join(e.texts, "") }

// done is the node of e.
func (e *element) done() api.Node {
	x := e.node
	if !e.outer {
		x.Text = e.text()
	}
	return x
}

// blank tells whether s is of blanks alone.
func blank(s string) bool { return strings.Trim(s, blanks) == "" }
