package sheet

import (
	"slices"
	"strings"

	"cardex/api"
	"cardex/fold"
	"cardex/jid"
)

const (
	// must is the column that each header has.
	must = "name"
	// sep is what is between groups.
	sep = ";"
)

// columns are what rows say of a contact. What is wrong with a jid counts ahead of what is wrong with groups, so it stands ahead of them.
func columns() table[api.Contact] {
	return table[api.Contact]{
		plain(must, func(c *api.Contact) *string { return &c.Name }),
		plain("family", func(c *api.Contact) *string { return &c.Family }),
		plain("given", func(c *api.Contact) *string { return &c.Given }),
		plain("nick", func(c *api.Contact) *string { return &c.Nick }),
		{"jid", putJid, func(c api.Contact) string { return c.Jid }},
		plain("email", func(c *api.Contact) *string { return &c.Email }),
		plain("tel", func(c *api.Contact) *string { return &c.Tel }),
		plain("note", func(c *api.Contact) *string { return &c.Note }),
		plain("uid", func(c *api.Contact) *string { return &c.Uid }),
		{"groups", putGroups, groups},
	}
}

// plain is the column of that name whose field is the text that in tells of a contact, as it is.
func plain(name string, in func(c *api.Contact) *string) column[api.Contact] {
	return column[api.Contact]{
		name: name,
		put: func(to *api.Contact, field string) api.Errno {
			*in(to) = field
			return api.OK
		},
		text: func(of api.Contact) string { return *in(&of) },
	}
}

// putJid puts an address into c, as it is kept, if there is one.
func putJid(c *api.Contact, field string) api.Errno {
	if field == "" {
		return api.OK
	}
	bare, err := jid.Bare(field)
	c.Jid = bare
	return err
}

// putGroups puts groups into c: rising, each once, none "".
func putGroups(c *api.Contact, field string) api.Errno {
	var l []string
	for _, part := range fold.Split(field, sep[0]) {
		group, err := fold.Plain(part)
		if err != api.OK {
			return err
		}
		if group != "" {
			l = append(l, group)
		}
	}
	slices.Sort(l)
	c.Groups = slices.Compact(l)
	return api.OK
}

// groups is the field of the groups of c.
func groups(c api.Contact) string {
	var l []string
	for _, group := range c.Groups {
		l = append(l, fold.Value(group))
	}
	return strings.Join(l, sep)
}
