package contact

import (
	"slices"
	"strings"

	"cardex/api"
	"cardex/fold"
	"cardex/jid"
)

// kind is a kind of known properties: what their Values are made of, and where in a contact that stands.
type kind struct {
	name  string
	start string // what a Value begins with
	sep   string // what is between the texts of a Value; "", if it is one text
	put   func(c *api.Contact, texts []string) api.Errno
	texts func(c api.Contact) []string // of nothing but "", if c has none
}

// kinds are all kinds of known properties, in the order in which Props tells them.
func kinds() []kind {
	return []kind{
		text("FN", func(c *api.Contact) *string { return &c.Name }),
		{name: "N", sep: ";", put: putNames, texts: names},
		text("NICKNAME", func(c *api.Contact) *string { return &c.Nick }),
		{name: "IMPP", start: "xmpp:", put: putJid, texts: func(c api.Contact) []string { return []string{c.Jid} }},
		text("EMAIL", func(c *api.Contact) *string { return &c.Email }),
		text("TEL", func(c *api.Contact) *string { return &c.Tel }),
		{name: "CATEGORIES", sep: ",", put: putGroups, texts: func(c api.Contact) []string { return c.Groups }},
		text("NOTE", func(c *api.Contact) *string { return &c.Note }),
		text("UID", func(c *api.Contact) *string { return &c.Uid }),
	}
}

// text is the kind of that name whose Values are the text that field tells of a contact.
func text(name string, field func(c *api.Contact) *string) kind {
	return kind{
		name: name,
		put: func(c *api.Contact, texts []string) api.Errno {
			*field(c) = texts[0]
			return api.OK
		},
		texts: func(c api.Contact) []string { return []string{*field(&c)} },
	}
}

// has tells whether p, if no other one of its kind was there, is known, and of the kind k.
func (k kind) has(p api.Prop) bool {
	return p.Group == "" && len(p.Params) == 0 && p.Name == k.name && strings.HasPrefix(p.Value, k.start)
}

// read puts what value says into c.
func (k kind) read(value string, c *api.Contact) api.Errno {
	texts := []string{strings.TrimPrefix(value, k.start)}
	if k.sep != "" {
		texts = fold.Split(texts[0], k.sep[0])
	}
	for i, escaped := range texts {
		plain, err := fold.Plain(escaped)
		if err != api.OK {
			return err
		}
		texts[i] = plain
	}
	return k.put(c, texts)
}

// putNames puts the parts of an N into c. What the last three say has no place there.
func putNames(c *api.Contact, parts []string) api.Errno {
	if len(parts) != 5 || parts[2] != "" || parts[3] != "" || parts[4] != "" {
		return api.ErrValue
	}
	c.Family, c.Given = parts[0], parts[1]
	return api.OK
}

// names are the parts of the N of c.
func names(c api.Contact) []string {
	if c.Family == "" && c.Given == "" {
		return nil
	}
	return []string{c.Family, c.Given, "", "", ""}
}

// putJid puts an address into c, as it is kept.
func putJid(c *api.Contact, texts []string) api.Errno {
	bare, err := jid.Bare(texts[0])
	c.Jid = bare
	return err
}

// putGroups puts groups into c: rising, each once, none "".
func putGroups(c *api.Contact, texts []string) api.Errno {
	slices.Sort(texts)
	for _, group := range slices.Compact(texts) {
		if group != "" {
			c.Groups = append(c.Groups, group)
		}
	}
	return api.OK
}
