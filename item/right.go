package item

import (
	"slices"

	"cardex/api"
	"cardex/jid"
	"cardex/utf"
)

// address tells whether s is an address as it is kept, without a resource.
func address(s string) bool {
	bare, err := jid.Bare(s)
	return err == api.OK && bare == s
}

// line tells whether s is a text of one line, and not too long.
func line(s string) bool { return utf.Line(s, api.MaxString) }

// grouped tells whether l may be the Groups of an item. They rise, and none is "", just if Groups leaves them as they are.
func grouped(l []string) bool {
	if len(l) > api.MaxGroups || !slices.Equal(l, Groups(l)) {
		return false
	}
	return !slices.ContainsFunc(l, func(group string) bool { return !line(group) })
}

// subscribed tells whether Sub is one, and neither what is there already is asked for, nor who is let already is let ahead.
func subscribed(x api.Item) bool {
	switch x.Sub {
	case api.None:
		return true
	case api.To:
		return !x.Ask
	case api.From:
		return !x.Approved
	case api.Both:
		return !x.Ask && !x.Approved
	}
	return false
}
