package canon

import (
	"slices"
	"strings"

	"cardex/api"
	"cardex/utf"
)

// What a name may begin with, and what else may stand within it: as token reads it.
const (
	letters = "ABCDEFGHIJKLMNOPQRSTUVWXYZabcdefghijklmnopqrstuvwxyz_"
	others  = "0123456789-."
)

// nested tells whether the nodes of l, of which there is one at least, stand in each other as elements can:
// none in words, none too deep, and each but the first one in one that is not closed yet.
func nested(l []api.Node) bool {
	open := []int{0}
	for i, x := range l[1:] {
		at := slices.Index(open, x.Parent)
		if at < 0 || at+1 == api.MaxDepth || l[x.Parent].Text != "" {
			return false
		}
		// What is open within its parent ends where it begins.
		open = append(open[:at+1], i+1)
	}
	return l[0].Parent == -1
}

// wrong tells whether there is something in x that no element can have, wherever it stands.
func wrong(x api.Node) bool {
	return !name(x.Name) || !utf.Valid(x.Text) || !utf.Valid(x.Space) || !apart(x.Attrs)
}

// apart tells whether an element can have the attributes l, and its namespace beside them.
func apart(l []api.Attr) bool {
	if len(l) >= api.MaxAttrs {
		return false
	}
	for i, a := range l {
		alike := func(b api.Attr) bool { return b.Name == a.Name }
		if !name(a.Name) || a.Name == namespace || !utf.Valid(a.Value) || slices.ContainsFunc(l[:i], alike) {
			return false
		}
	}
	return true
}

// name tells whether s is a name.
func name(s string) bool {
	return s != "" && strings.Contains(letters, s[:1]) && strings.Trim(s, letters+others) == ""
}
