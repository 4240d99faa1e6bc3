package contact

import (
	"slices"
	"strings"

	"cardex/api"
	"cardex/jid"
	"cardex/utf"
	"cardex/vcard"
)

// noteLimit is how many characters a Note may have.
const noteLimit = 5 * api.MaxString

// Right tells whether there may be such a contact.
func Right(c api.Contact) bool {
	lines := []string{c.Name, c.Family, c.Given, c.Nick, c.Email, c.Tel, c.Uid}
	return c.Name != "" && !slices.ContainsFunc(lines, noLine) &&
		note(c.Note) && address(c.Jid) && rising(c.Groups) && written(c.Other)
}

// noLine tells whether s is no text of one line, or too long.
func noLine(s string) bool { return !utf.Line(s, api.MaxString) }

// note tells whether s may be a Note. 13 has no escape in a property, so it would not come back.
func note(s string) bool {
	return utf.Valid(s) && utf.Count(s) <= noteLimit && !strings.Contains(s, "\r")
}

// address tells whether s is "", or an address as it is kept.
func address(s string) bool {
	if s == "" {
		return true
	}
	bare, err := jid.Bare(s)
	return err == api.OK && bare == s
}

// rising tells whether l may be the Groups of a contact.
func rising(l []string) bool {
	if len(l) > api.MaxGroups {
		return false
	}
	// Nothing is below "": so the first one, too, has to be above it.
	last := ""
	for _, group := range l {
		if group <= last || noLine(group) {
			return false
		}
		last = group
	}
	return true
}

// written tells whether one card may have the properties l. How many there may be, vcard asks itself.
func written(l []api.Prop) bool {
	_, err := vcard.Write([][]api.Prop{l})
	return err == api.OK
}
