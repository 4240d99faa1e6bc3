package canon

import (
	"slices"
	"strings"

	"cardex/api"
	"cardex/escape"
	"cardex/tree"
)

// nodes are a tree that is Right.
type nodes []api.Node

// written is all things, one behind the other, each as write tells it.
func written[T any](things []T, write func(thing T) string) string {
	var all strings.Builder
	for _, thing := range things {
		all.WriteString(write(thing))
	}
	return all.String()
}

// element is the node i, with all that stands in it.
func (l nodes) element(i int) string {
	x := l[i]
	begin := "<" + x.Name + written(l.said(i), attribute)
	// One of these two is nothing, as no words stand beside elements.
	within := escape.Text(x.Text) + written(tree.Kids(l, i), l.element)
	if within == "" {
		return begin + "/>"
	}
	return begin + ">" + within + "</" + x.Name + ">"
}

// said are the attributes of the node i, with its namespace ahead, if it is another one than around it.
func (l nodes) said(i int) []api.Attr {
	x, around := l[i], ""
	if x.Parent >= 0 {
		around = l[x.Parent].Space
	}
	if x.Space == around {
		return x.Attrs
	}
	return slices.Concat([]api.Attr{{Name: namespace, Value: x.Space}}, x.Attrs)
}

// attribute is a, with the blank ahead of it.
func attribute(a api.Attr) string { return " " + a.Name + "='" + escape.Text(a.Value) + "'" }
