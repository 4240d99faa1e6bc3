package contact

import (
	"math/rand"
	"slices"
	"strings"
	"testing"

	"cardex/api"
)

// sample is a property of a kind, what of a contact it says, and a Value of it that is an error, and which.
type sample struct {
	prop  api.Prop
	put   func(c *api.Contact)
	wrong string
	err   api.Errno
}

// samples are one of each kind, and more of some.
func samples() []sample {
	return []sample{
		{prop("FN", `Zo\, b`), func(c *api.Contact) { c.Name = "Zo, b" }, `a\`, api.ErrEscape},
		{prop("N", `f\;;g;;;`), func(c *api.Contact) { c.Family, c.Given = "f;", "g" }, "f;g", api.ErrValue},
		{prop("NICKNAME", `n\\`), func(c *api.Contact) { c.Nick = `n\` }, `\x`, api.ErrEscape},
		{prop("IMPP", "xmpp:A@B"), func(c *api.Contact) { c.Jid = "a@b" }, "xmpp:", api.ErrJid},
		{prop("EMAIL", "e;f,g"), func(c *api.Contact) { c.Email = "e;f,g" }, `\:`, api.ErrEscape},
		{prop("TEL", "tel:+1"), func(c *api.Contact) { c.Tel = "tel:+1" }, `+1\`, api.ErrEscape},
		{prop("CATEGORIES", `c,a\,b,,c`), func(c *api.Contact) { c.Groups = []string{"a,b", "c"} }, `a,\a,b`, api.ErrEscape},
		{prop("NOTE", `x\ny\N`), func(c *api.Contact) { c.Note = "x\ny\n" }, `\ `, api.ErrEscape},
		{prop("UID", "xmpp:u"), func(c *api.Contact) { c.Uid = "xmpp:u" }, `\é`, api.ErrEscape},
	}
}

// of is who the properties l are of, as it should be.
func of(t *testing.T, want api.Contact, l ...api.Prop) {
	t.Helper()
	ofIs(t, l, want, api.OK)
	held(t, l)
}

// fails holds that the properties l are of nobody, and that nothing is told beside err.
func fails(t *testing.T, err api.Errno, l ...api.Prop) {
	t.Helper()
	ofIs(t, l, api.Contact{}, err)
	held(t, l)
	if c, _ := Of(l); c.Groups != nil || c.Other != nil {
		t.Fatalf("R4: Of(%.400q): %.400q beside %d", l, c, err)
	}
}

// named is a contact of the Name "a".
func named(set ...func(c *api.Contact)) api.Contact {
	c := api.Contact{Name: "a"}
	for _, f := range set {
		f(&c)
	}
	return c
}

// fn is the property of named.
var fn = prop("FN", "a")

// whole is l, with fn ahead, unless there is an FN in it that is known.
func whole(l ...api.Prop) []api.Prop {
	if slices.ContainsFunc(l, func(p api.Prop) bool { return p.Name == "FN" && toldKnown(p) }) {
		return l
	}
	return append([]api.Prop{fn}, l...)
}

func TestOrdinaryCards(t *testing.T) {
	of(t, named(), fn)
	tel := in("item1", prop("TEL", "2"))
	adr := prop("ADR", ";;1;Verona", "TYPE", "home,work")
	of(t, api.Contact{Name: "Juliet Capulet", Family: "Capulet", Given: "Juliet", Jid: "juliet@example.org", Tel: "+1", Note: "no\tNurse,\nplease", Groups: []string{"Family", "Friends"}, Other: []api.Prop{adr, tel}},
		prop("FN", "Juliet Capulet"), prop("N", "Capulet;Juliet;;;"), adr, prop("IMPP", "xmpp:Juliet@Example.org"), tel, prop("TEL", "+1"), prop("CATEGORIES", "Friends,Family"), prop("NOTE", "no\tNurse\\,\\nplease"))
	of(t, api.Contact{Name: "a;b"}, prop("FN", "a;b"))
}

func TestNoProperties(t *testing.T) {
	fails(t, api.ErrValue)
	fails(t, api.ErrValue, []api.Prop{}...)
	fails(t, api.ErrValue, prop("X", "y"))
	fails(t, api.ErrValue, api.Prop{})
}

// Each known property alone beside an FN, ahead of it and behind it.
func TestEachKindAlone(t *testing.T) {
	for _, s := range samples() {
		wrong := prop(s.prop.Name, s.wrong)
		of(t, named(s.put), whole(s.prop)...)
		fails(t, s.err, whole(wrong)...)
		fails(t, s.err, wrong)
		fails(t, s.err, wrong, fn)
		if s.prop.Name != "FN" {
			of(t, named(s.put), s.prop, fn)
			fails(t, api.ErrValue, s.prop)
		}
	}
}

// All of them, in many orders: they say the same.
func TestAllKindsInAnyOrder(t *testing.T) {
	c, l := api.Contact{}, []api.Prop(nil)
	for _, s := range samples() {
		s.put(&c)
		l = append(l, s.prop)
	}
	chance := rand.New(rand.NewSource(1))
	of(t, c, l...)
	for i := range l {
		of(t, c, append(slices.Clone(l[i:]), l[:i]...)...)
	}
	slices.Reverse(l)
	of(t, c, l...)
	for range 2_000 {
		chance.Shuffle(len(l), func(i, j int) { l[i], l[j] = l[j], l[i] })
		of(t, c, l...)
	}
}

// With a Group, a parameter, or both, none is known: it is Other, as it is, and leaves the kind free.
func TestGroupsAndParameters(t *testing.T) {
	for _, s := range samples() {
		for _, value := range []string{s.prop.Value, s.wrong, "", `\`} {
			one := prop(s.prop.Name, value, "TYPE", "home")
			for _, p := range []api.Prop{in("g", prop(s.prop.Name, value)), one, in("G-1", one), prop(s.prop.Name, value, "A", "", "A", "b;c")} {
				if s.prop.Name == "FN" {
					fails(t, api.ErrValue, p)
				}
				other := func(c *api.Contact) { c.Other = []api.Prop{p} }
				of(t, named(other), fn, p)
				of(t, named(other), p, fn)
				of(t, named(s.put, other), whole(p, s.prop)...)
				of(t, named(s.put, other), whole(s.prop, p)...)
			}
		}
	}
}

// An empty list of parameters is none.
func TestEmptyParameters(t *testing.T) {
	for _, s := range samples() {
		p := s.prop
		p.Params = []api.Attr{}
		of(t, named(s.put), whole(p)...)
	}
}

// A second one of each kind, and a third, is Other, as it is, also where its Value would be an error.
func TestFurtherOnes(t *testing.T) {
	for _, s := range samples() {
		name := s.prop.Name
		for _, value := range []string{s.prop.Value, "", "b", s.wrong, `\`, "xmpp:", "xmpp:@", "xmpp:b@c", ";;;;", strings.Repeat("x", 600)} {
			more := prop(name, value)
			l := []api.Prop{more}
			of(t, named(s.put, func(c *api.Contact) { c.Other = l }), whole(s.prop, more)...)
			of(t, named(s.put, func(c *api.Contact) { c.Other = []api.Prop{more, more} }), whole(s.prop, more, more)...)
			third := prop(name, `\third`)
			of(t, named(s.put, func(c *api.Contact) { c.Other = []api.Prop{more, third} }), whole(s.prop, more, third)...)
			of(t, named(s.put, func(c *api.Contact) { c.Other = []api.Prop{third, more} }), whole(s.prop, third, more)...)
		}
	}
}

// Others between the first one and the second one, known ones among them.
func TestFurtherOnesBehindOthers(t *testing.T) {
	for i, s := range samples() {
		c, l := api.Contact{}, []api.Prop{s.prop}
		s.put(&c)
		x, more, third := prop("X", `\x`), prop(s.prop.Name, s.wrong), prop(s.prop.Name, "xmpp:")
		for j, other := range samples() {
			if j != i {
				other.put(&c)
				l = append(l, other.prop, x)
				c.Other = append(c.Other, x)
			}
		}
		c.Other = append(c.Other, more, third, x, more)
		of(t, c, append(l, more, third, x, more)...)
	}
}

// A first one that says nothing has been there all the same.
func TestFurtherOnesOfNothing(t *testing.T) {
	for _, name := range []string{"NICKNAME", "EMAIL", "TEL", "CATEGORIES", "NOTE", "UID"} {
		more := prop(name, "b")
		of(t, named(func(c *api.Contact) { c.Other = []api.Prop{more} }), fn, prop(name, ""), more)
	}
	n := prop("N", "f;g;;;")
	of(t, named(func(c *api.Contact) { c.Other = []api.Prop{n} }), fn, prop("N", ";;;;"), n)
	g := prop("CATEGORIES", "g")
	of(t, named(func(c *api.Contact) { c.Other = []api.Prop{g} }), prop("CATEGORIES", ",,"), g, fn)
	fails(t, api.ErrValue, prop("FN", ""), fn)
	fails(t, api.ErrValue, prop("FN", ""), fn, prop("X", "y"))
}

// Names that are near to known ones are others: in small letters they may not be, else they are Other.
func TestNearNames(t *testing.T) {
	for _, s := range samples() {
		name := s.prop.Name
		for _, value := range []string{s.prop.Value, s.wrong} {
			for _, near := range []string{name + "S", "X" + name, name + "-", name + "0", "X-" + name, name + name, name[1:] + "0"} {
				p := prop(near, value)
				of(t, named(func(c *api.Contact) { c.Other = []api.Prop{p} }), fn, p)
				of(t, named(s.put, func(c *api.Contact) { c.Other = []api.Prop{p} }), whole(p, s.prop)...)
				fails(t, api.ErrValue, p)
			}
			for _, near := range []string{strings.ToLower(name), name[:1] + strings.ToLower(name[1:]) + "a", "", name + " ", " " + name, name + "\x00", name + ":"} {
				fails(t, api.ErrValue, fn, prop(near, value))
				fails(t, api.ErrValue, prop(near, value), fn)
				fails(t, api.ErrValue, whole(s.prop, prop(near, value))...)
			}
		}
	}
	short := prop("NICKNAM", `\x`)
	of(t, named(func(c *api.Contact) { c.Other = []api.Prop{short, prop("F", "1"), prop("CATEGORIE", "a")} }), fn, short, prop("F", "1"), prop("CATEGORIE", "a"))
	both := prop("FN N", "a")
	fails(t, api.ErrValue, fn, both)
}

// N: five parts, the last three "".
func TestPartsOfN(t *testing.T) {
	for _, r := range []struct{ value, family, given string }{
		{"f;g;;;", "f", "g"}, {"f;;;;", "f", ""}, {";g;;;", "", "g"}, {";;;;", "", ""}, {`f\;h;g;;;`, "f;h", "g"}, {`f;g\;;;;`, "f", "g;"},
		{`\;;\;;;;`, ";", ";"}, {`f\\;g;;;`, `f\`, "g"}, {`\\;\\;;;`, `\`, `\`}, {`\\\;;g;;;`, `\;`, "g"}, {`a\,b;c,d;;;`, "a,b", "c,d"}, {"é;日 本;;;", "é", "日 本"}, {" ; ;;;", " ", " "},
	} {
		of(t, named(func(c *api.Contact) { c.Family, c.Given = r.family, r.given }), fn, prop("N", r.value))
	}
	for _, value := range []string{"", "f", "f;g", "f;g;", "f;g;;", ";;;", "f;g;;;;", ";;;;;", ";;;;;;;;;;", `f;g;;\;`, `f\;g;;;`, `;;;\;`, `f\\;;;`, "f,g,,,", "f;g;h;;", "f;g;;h;", "f;g;;;h", ";;h;;", ";;;h;", ";;;;h", ";; ;;", ";;;;\t", `;;\n;;`, `;;;;\;`, `;;\\;;`, "f;g;h;i;j"} {
		fails(t, api.ErrValue, fn, prop("N", value))
		fails(t, api.ErrValue, prop("N", value), fn)
	}
	// An escape that is none counts first, in whatever part, of however many.
	for _, value := range []string{`\`, `\x`, `\x;b`, `a;\x`, `a;b;\x`, `a;b;\x;`, `\x;;;;`, `;\x;;;`, `;;\x;;`, `;;;\x;`, `;;;;\x`, `a;b;;;\`, `\;;;;\`, `f;g;;;;\x`, `f;g;h;i;j;k;\`, `f\ ;g;;;`} {
		fails(t, api.ErrEscape, fn, prop("N", value))
		fails(t, api.ErrEscape, prop("N", value))
	}
	fails(t, api.ErrValue, fn, prop("N", `\n;;;;`))
	fails(t, api.ErrValue, fn, prop("N", `;\N;;;`))
}

// grouped holds that the CATEGORIES value says the groups want, and nothing else.
func grouped(t *testing.T, value string, want ...string) {
	t.Helper()
	of(t, named(func(c *api.Contact) { c.Groups = want }), fn, prop("CATEGORIES", value))
	of(t, named(func(c *api.Contact) { c.Groups = want }), prop("CATEGORIES", value), fn)
}

func TestCategories(t *testing.T) {
	grouped(t, "")
	grouped(t, ",")
	grouped(t, ",,,,,,,,,,,,")
	grouped(t, "a", "a")
	grouped(t, "a,b", "a", "b")
	grouped(t, "b,a", "a", "b")
	grouped(t, ",a,,b,", "a", "b")
	grouped(t, ",,b,,,a,,", "a", "b")
	grouped(t, "a,a", "a")
	grouped(t, "b,a,b,a,b", "a", "b")
	grouped(t, `a\,b`, "a,b")
	grouped(t, `a\,b,a`, "a", "a,b")
	grouped(t, `\,`, ",")
	grouped(t, `\,,\,`, ",")
	grouped(t, `a\\,b`, `a\`, "b")
	grouped(t, `a\\\,b`, `a\,b`)
	grouped(t, "a;b", "a;b")
	grouped(t, `a\;b,a;b`, "a;b")
	grouped(t, " , a", " ", " a")
	grouped(t, "é,z,Z,日", "Z", "z", "é", "日")
	grouped(t, "aa,a,ab,b", "a", "aa", "ab", "b")
	for _, value := range []string{`\`, `\x`, `a,\x`, `\x,a`, `a,\x,b`, `a,b\`, `,\`, `a\ ,b`, `1,2,3,4,5,6,7,8,9,\x`, `\\\`, `a\,\`} {
		fails(t, api.ErrEscape, fn, prop("CATEGORIES", value))
		fails(t, api.ErrEscape, prop("CATEGORIES", value))
	}
	for _, value := range []string{`\n`, `a,b\nc`, "a\tb", "a,\r", "\n", "a,\xff", "\x00,a", "a,\uffff"} {
		fails(t, api.ErrValue, fn, prop("CATEGORIES", value))
	}
}

// P12.2: so many as may be, and more, ahead of and behind leaving the same ones out.
func TestHowManyGroups(t *testing.T) {
	grouped(t, "1,2,3,4,5,6,7,8", "1", "2", "3", "4", "5", "6", "7", "8")
	grouped(t, "8,7,6,5,4,3,2,1", "1", "2", "3", "4", "5", "6", "7", "8")
	grouped(t, "1,2,3,4,5,6,7,8,8", "1", "2", "3", "4", "5", "6", "7", "8")
	grouped(t, "1,1,2,3,4,5,6,7,8", "1", "2", "3", "4", "5", "6", "7", "8")
	grouped(t, ",5,2,3,,4,1,6,7,8,,5,1,", "1", "2", "3", "4", "5", "6", "7", "8")
	grouped(t, strings.Repeat("8,,1,7,2,6,3,5,4,", 100), "1", "2", "3", "4", "5", "6", "7", "8")
	grouped(t, strings.Repeat("a,", 1_000), "a")
	fails(t, api.ErrValue, fn, prop("CATEGORIES", "1,2,3,4,5,6,7,8,9"))
	fails(t, api.ErrValue, fn, prop("CATEGORIES", "9,8,7,6,5,4,3,2,1"))
	fails(t, api.ErrValue, fn, prop("CATEGORIES", ",9,8,7,6,5,,4,3,2,1,9,9"))
	long := strings.Repeat("é", 100)
	grouped(t, long+",a", "a", long)
	fails(t, api.ErrValue, fn, prop("CATEGORIES", long+"é"))
	fails(t, api.ErrValue, fn, prop("CATEGORIES", "a,"+long+"é,b"))
}

// P12.2: all orders of up to five groups, with the same ones and "" among them.
func TestGroupsInAnyOrder(t *testing.T) {
	for _, row := range rowsOf(5, "", "a", "b", "ab", `a\,b`, "é") {
		held(t, []api.Prop{fn, prop("CATEGORIES", strings.Join(row, ","))})
	}
	for _, row := range rowsOf(4, "", "0", "1", "z", "y\\\\") {
		held(t, []api.Prop{fn, prop("CATEGORIES", strings.Join(append(row, "1", "2", "3", "4", "5", "6"), ","))})
		held(t, []api.Prop{prop("CATEGORIES", strings.Join(append([]string{"6", "5", "4", "3", "2", "1"}, row...), ",")), fn})
	}
}

// texts are the known properties that have a text or more, each with one in it, and what it says.
var texts = []struct {
	name, ahead, behind string
	said                func(c *api.Contact, s string)
}{
	{"FN", "", "", func(c *api.Contact, s string) { c.Name = s }},
	{"N", "", ";;;;", func(c *api.Contact, s string) { c.Family = s }},
	{"N", ";", ";;;", func(c *api.Contact, s string) { c.Given = s }},
	{"NICKNAME", "", "", func(c *api.Contact, s string) { c.Nick = s }},
	{"EMAIL", "", "", func(c *api.Contact, s string) { c.Email = s }},
	{"TEL", "", "", func(c *api.Contact, s string) { c.Tel = s }},
	{"NOTE", "", "", func(c *api.Contact, s string) { c.Note = s }},
	{"UID", "", "", func(c *api.Contact, s string) { c.Uid = s }},
	{"CATEGORIES", "", ",,", func(c *api.Contact, s string) { c.Groups = []string{s} }},
	{"CATEGORIES", " ,", ", ", func(c *api.Contact, s string) { c.Groups = []string{" ", s} }},
	{"IMPP", "xmpp:", "@b", func(c *api.Contact, s string) { c.Jid = s + "@b" }},
}

// Each escape that fold knows, in each text.
func TestEscapes(t *testing.T) {
	for _, x := range texts {
		for _, r := range []struct{ value, s string }{
			{"a", "a"}, {`a\,b`, "a,b"}, {`a\;b`, "a;b"}, {`a\\b`, `a\b`}, {`\,`, ","}, {`\;`, ";"}, {`\\`, `\`}, {`\\\,\;`, `\,;`}, {`\\n`, `\n`}, {`a\\\\n`, `a\\n`},
		} {
			of(t, named(func(c *api.Contact) { x.said(c, r.s) }), whole(prop(x.name, x.ahead+r.value+x.behind))...)
		}
		// 10 has an escape, but may only be in a NOTE.
		for _, value := range []string{`a\nb`, `\n`, `\N`, `\\\n`} {
			l := whole(prop(x.name, x.ahead+value+x.behind))
			switch x.name {
			case "NOTE":
				s := strings.NewReplacer(`\\`, `\`, `\n`, "\n", `\N`, "\n").Replace(value)
				of(t, named(func(c *api.Contact) { c.Note = s }), l...)
			case "IMPP":
				fails(t, api.ErrChar, l...)
			default:
				fails(t, api.ErrValue, l...)
			}
		}
	}
}

// An escape that fold does not know, or one that is cut off, in each text.
func TestNoEscapes(t *testing.T) {
	for _, x := range texts {
		for _, value := range []string{`\x`, `a\x`, `\xa`, `\:`, `\t`, `\r`, `\"`, `\ `, `\é`, "\\\n", "\\\xff", `\\\x`, `\n\x`, strings.Repeat("x", 600) + `\x`, "\xff\\x"} {
			p := prop(x.name, x.ahead+value+x.behind)
			fails(t, api.ErrEscape, whole(p)...)
			fails(t, api.ErrEscape, p)
		}
		for _, value := range []string{`\`, `a\`, `\\\`, `\,\`, `\n\`} {
			p := prop(x.name, x.ahead+value)
			fails(t, api.ErrEscape, whole(p)...)
			fails(t, api.ErrEscape, p)
		}
	}
}

// IMPP: "xmpp:" as it stands, and what jid.Bare says of what is behind it.
func TestAddresses(t *testing.T) {
	host, local := strings.Repeat("h", 100), strings.Repeat("l", 64)
	for _, r := range []struct{ value, jid string }{
		{"a@b", "a@b"}, {"A@B", "a@b"}, {"B", "b"}, {"ROMEO@Example.ORG.", "romeo@example.org"}, {"Straße@STRASSE", "strasse@strasse"},
		{`a\;\\b@c`, `a;\b@c`}, {`\,@c`, ",@c"}, {"a;b,c@d", "a;b,c@d"}, {`A\\,\\;@c`, `a\,\;@c`}, {local + "@" + host, local + "@" + host}, {"xmpp@b", "xmpp@b"}, {"\u00ada@b", "a@b"},
	} {
		of(t, named(func(c *api.Contact) { c.Jid = r.jid }), fn, prop("IMPP", "xmpp:"+r.value))
		of(t, named(func(c *api.Contact) { c.Jid = r.jid }), prop("IMPP", "xmpp:"+r.value), fn)
	}
	for _, r := range []struct {
		value string
		err   api.Errno
	}{
		{"", api.ErrJid}, {"@", api.ErrJid}, {"a@", api.ErrJid}, {"@b", api.ErrJid}, {"a@b/c", api.ErrJid}, {"a@b/", api.ErrJid}, {"b/c", api.ErrJid}, {"/", api.ErrJid}, {"a@-b", api.ErrJid}, {"a..b", api.ErrJid}, {host + "h", api.ErrJid}, {"l" + local + "@b", api.ErrJid},
		{"a@b\xff", api.ErrUtf}, {"\xff@b", api.ErrUtf}, {"a@\x00", api.ErrUtf}, {"a@b/\uffff", api.ErrUtf}, {" @b", api.ErrChar}, {"a b@c", api.ErrChar}, {"a@b_c", api.ErrChar}, {"a@b c", api.ErrChar}, {"a@b@c", api.ErrChar}, {"xmpp:a@b", api.ErrChar}, {"//a@b", api.ErrJid},
		{"\u05d0a@b", api.ErrBidi}, {"a@\u05d01", api.ErrBidi}, {`a\n@b`, api.ErrChar}, {`a\x@b`, api.ErrEscape}, {`\`, api.ErrEscape}, {`a@b\`, api.ErrEscape}, {`a b@c\x`, api.ErrEscape}, {"\xff\\x", api.ErrEscape}, {`@\@`, api.ErrEscape},
	} {
		fails(t, r.err, fn, prop("IMPP", "xmpp:"+r.value))
		fails(t, r.err, prop("IMPP", "xmpp:"+r.value), fn)
		fails(t, r.err, prop("IMPP", "xmpp:"+r.value))
	}
}

// An IMPP of anything else is Other, as it is, and leaves the kind free.
func TestOtherAddresses(t *testing.T) {
	for _, value := range []string{"", "x", "xmpp", "xmp", "xmpp;", `xmpp\:a@b`, `\xmpp:a@b`, `\\xmpp:a@b`, `xmpp\\:a@b`, "XMPP:a@b", "Xmpp:a@b", "xmpP:a@b", " xmpp:a@b", ":xmpp:a@b", "xxmpp:a@b", "xmppa@b", "mpp:a@b", "sip:a@b", "sip:xmpp:a@b", "a@b", `sip:\x`, `\`, `"xmpp:a@b"`, "ｘmpp:a@b"} {
		p := prop("IMPP", value)
		of(t, named(func(c *api.Contact) { c.Other = []api.Prop{p} }), fn, p)
		known, further := prop("IMPP", "xmpp:B@c"), prop("IMPP", "xmpp:@")
		jid := func(c *api.Contact) { c.Jid = "b@c" }
		of(t, named(jid, func(c *api.Contact) { c.Other = []api.Prop{p} }), fn, p, known)
		of(t, named(jid, func(c *api.Contact) { c.Other = []api.Prop{p} }), known, p, fn)
		of(t, named(jid, func(c *api.Contact) { c.Other = []api.Prop{p, p, further, p} }), p, fn, p, known, further, p)
		fails(t, api.ErrJid, fn, p, further)
		fails(t, api.ErrJid, p, further, known, fn)
	}
}

// Which error counts: of one property as named, of two the one of the property ahead, and ErrValue of all last.
func TestWhichErrorCounts(t *testing.T) {
	wrongs := []struct {
		p   api.Prop
		err api.Errno
	}{
		{prop("FN", `\x`), api.ErrEscape}, {prop("N", ""), api.ErrValue}, {prop("N", ";;;;x"), api.ErrValue}, {prop("N", `\x`), api.ErrEscape}, {prop("NICKNAME", `\`), api.ErrEscape},
		{prop("IMPP", "xmpp:"), api.ErrJid}, {prop("IMPP", "xmpp: @b"), api.ErrChar}, {prop("IMPP", "xmpp:\xff"), api.ErrUtf}, {prop("IMPP", "xmpp:\u05d01"), api.ErrBidi}, {prop("IMPP", `xmpp:\x`), api.ErrEscape},
		{prop("EMAIL", `\`), api.ErrEscape}, {prop("TEL", `\`), api.ErrEscape}, {prop("CATEGORIES", `\`), api.ErrEscape}, {prop("NOTE", `\`), api.ErrEscape}, {prop("UID", `\`), api.ErrEscape},
	}
	ends := []api.Prop{prop("X", "\n"), prop("x", "y"), prop("BEGIN", "VCARD"), prop("UID", "\t"), prop("NOTE", "\r"), prop("CATEGORIES", "1,2,3,4,5,6,7,8,9"), prop("TEL", strings.Repeat("1", 101)), prop("X", strings.Repeat("y", 20_000))}
	for _, a := range wrongs {
		for _, b := range wrongs {
			if a.p.Name == b.p.Name {
				continue // the second one is Other
			}
			fails(t, a.err, a.p, b.p)
			fails(t, a.err, append(whole(a.p), b.p)...)
		}
		for _, b := range ends {
			if a.p.Name != b.Name {
				fails(t, a.err, b, a.p)
				fails(t, a.err, a.p, b)
			}
		}
		many := slices.Repeat([]api.Prop{prop("X", "y")}, 41)
		fails(t, a.err, append(many, a.p)...)
		fails(t, a.err, prop("X", "\xff"), prop("UID", "\xff", "A", "b"), a.p, fn)
	}
}

// ErrValue in the end, each for its own reason.
func TestNotRightInTheEnd(t *testing.T) {
	long := strings.Repeat("x", 100)
	other := func(n int) []api.Prop { return slices.Repeat([]api.Prop{prop("X", "y")}, n) }
	fails(t, api.ErrValue, prop("FN", ""))
	fails(t, api.ErrValue, prop("N", "f;g;;;"), prop("UID", "u"))
	fails(t, api.ErrValue, in("g", fn))
	for _, x := range texts {
		for _, s := range []string{"a\tb", "\r", "\n", "\x00", "\xff", "\xed\xa0\x80", "\ufffe", long + "x", strings.Repeat("é", 101), long + `\,`, strings.Repeat(`\\`, 101)} {
			if x.name == "IMPP" || x.name == "NOTE" {
				continue
			}
			p := prop(x.name, x.ahead+s+x.behind)
			fails(t, api.ErrValue, whole(p)...)
		}
	}
	for _, s := range []string{"\r", "a\r\nb", "\x00", "\xff", "\uffff", strings.Repeat("x", 501), strings.Repeat("é", 501), strings.Repeat(`\n`, 501)} {
		fails(t, api.ErrValue, fn, prop("NOTE", s))
	}
	fails(t, api.ErrValue, append(other(41), fn)...)
	fails(t, api.ErrValue, append([]api.Prop{fn, fn}, other(40)...)...)
	fails(t, api.ErrValue, fn, prop("X", strings.Repeat("y", 20_000)))
	fails(t, api.ErrValue, fn, prop("X", "\n"))
	fails(t, api.ErrValue, fn, fn, prop("FN", "\r"))
	fails(t, api.ErrValue, fn, prop("X", "y", "a", "b"))
	fails(t, api.ErrValue, fn, in("g.h", prop("X", "y")))
}

// As much as may be, in each text, and in all.
func TestAsMuchAsMayBe(t *testing.T) {
	for _, s := range []string{strings.Repeat("x", 100), strings.Repeat("é", 100), strings.Repeat("😀", 100)} {
		for _, x := range texts {
			if x.name != "IMPP" {
				of(t, named(func(c *api.Contact) { x.said(c, s) }), whole(prop(x.name, x.ahead+s+x.behind))...)
			}
		}
	}
	of(t, named(func(c *api.Contact) { c.Tel = strings.Repeat(`\`, 100) }), fn, prop("TEL", strings.Repeat(`\\`, 100)))
	of(t, named(func(c *api.Contact) { c.Note = strings.Repeat("é\n", 250) }), fn, prop("NOTE", strings.Repeat(`é\n`, 250)))
	l, c := []api.Prop{fn}, named()
	for range 40 {
		l = append(l, prop("X", "y"))
	}
	c.Other = slices.Clone(l[1:])
	of(t, c, l...)
	for _, s := range samples()[1:] {
		l = append(l, s.prop)
		s.put(&c)
	}
	of(t, c, l...)
	slices.Reverse(l)
	of(t, c, l...)
}

// Other is told as it stands in the card, in its order, the same one as often as it is there.
func TestOrderOfOther(t *testing.T) {
	a, b, c := prop("B", "1"), prop("A", "2"), in("g", prop("FN", "3"))
	d, e := prop("N", `\`, "A", "b"), prop("FN", "")
	for _, row := range rowsOf(4, a, b, c, d, e) {
		of(t, named(func(c *api.Contact) { c.Other = row }), append([]api.Prop{fn}, row...)...)
		l := slices.Clone(row)
		for i := range l {
			if l[i].Group == "" && l[i].Name == "FN" {
				l[i] = prop("FN", "", "A", "")
			}
		}
		of(t, named(func(c *api.Contact) { c.Other = l }), append(slices.Clone(l), fn)...)
	}
}

// R3: what is handed in is not changed, nor the room behind its end.
func TestOfChangesNothing(t *testing.T) {
	given := func() []api.Prop {
		params := []api.Attr{{Name: "A", Value: "b"}, {Name: "C", Value: "d"}, {Name: "E", Value: "f"}}
		l := []api.Prop{prop("UID", "u"), prop("X", "y"), in("g", prop("TEL", "1")), fn, prop("CATEGORIES", "b,a"), prop("FN", "z"), prop("Y", ""), prop("Z", "z"), prop("Z", "z")}
		l[1].Params = params[:1]
		l[2].Params = params[1:2]
		return l
	}
	for n := range len(given()) + 1 {
		l := given()
		Of(l[:n])
		if want := given(); !sameProps(l, want) || !slices.Equal(l[1].Params[:3], want[1].Params[:3]) {
			t.Fatalf("R3: Of changed what it was given: %q", l)
		}
	}
}

// R3: what is handed out is new memory: neither what was handed in, nor what another answer has.
func TestOfIsNew(t *testing.T) {
	l := []api.Prop{fn, prop("CATEGORIES", "b,a,c"), prop("X", "y", "A", "b"), prop("X", "y")}
	l = append(l, l[2]) // two with one list of parameters
	c, _ := Of(l)
	d, _ := Of(l)
	c.Groups[0], c.Other[0].Params[0].Value, c.Other[1].Name = "z", "z", "z"
	_, _, _ = append(c.Groups[:1], "z"), append(c.Other[:1], fn), append(c.Other[0].Params[:0], api.Attr{})
	want := named(func(c *api.Contact) {
		c.Groups, c.Other = []string{"a", "b", "c"}, []api.Prop{prop("X", "y", "A", "b"), prop("X", "y"), prop("X", "y", "A", "b")}
	})
	if !same(d, want) || l[2].Params[0].Value != "b" || l[3].Name != "X" {
		t.Errorf("R3: who writes into a contact changes others: %q, %q", d, l)
	}
	if c.Other[2].Params[0].Value != "b" {
		t.Errorf("R3: two properties of one contact share their parameters: %q", c)
	}
	l[2].Params[0].Value, l[3].Name = "y", "Y"
	if !same(d, want) {
		t.Errorf("R3: Of keeps what it was given: %q", d)
	}
}
