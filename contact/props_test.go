package contact

import (
	"slices"
	"strings"
	"testing"

	"cardex/api"
)

// has holds that c has the properties l, and that these are of it, unless one of its Other is known.
func has(t *testing.T, c api.Contact, l ...api.Prop) {
	t.Helper()
	propsIs(t, c, l, api.OK)
	heldContact(t, c)
}

func TestPropsOfAll(t *testing.T) {
	has(t, full(),
		prop("FN", `a\,b`), prop("N", `f\;;g\\;;;`), prop("NICKNAME", "n"), prop("IMPP", `xmpp:a\;\,\\b@c`), prop("EMAIL", "e"), prop("TEL", "t"),
		prop("CATEGORIES", `a\,b,c`), prop("NOTE", `x\ny`), prop("UID", "u"), prop("FN", "z"), in("g", prop("TEL", "1", "A", "b")))
}

// Each property by itself, behind an FN; what is "" is left out.
func TestEachPropAlone(t *testing.T) {
	has(t, api.Contact{Name: "a"}, fn)
	has(t, api.Contact{Name: "a", Groups: []string{}, Other: []api.Prop{}}, fn)
	for _, r := range []struct {
		c     api.Contact
		name  string
		value string
	}{
		{api.Contact{Family: "f"}, "N", "f;;;;"}, {api.Contact{Given: "g"}, "N", ";g;;;"}, {api.Contact{Family: "f", Given: "g"}, "N", "f;g;;;"}, {api.Contact{Family: ";", Given: `\`}, "N", `\;;\\;;;`}, {api.Contact{Family: " "}, "N", " ;;;;"},
		{api.Contact{Nick: "n,;"}, "NICKNAME", `n\,\;`}, {api.Contact{Jid: "b"}, "IMPP", "xmpp:b"}, {api.Contact{Jid: "a@b"}, "IMPP", "xmpp:a@b"}, {api.Contact{Jid: `;\,@b`}, "IMPP", `xmpp:\;\\\,@b`},
		{api.Contact{Email: `a\b`}, "EMAIL", `a\\b`}, {api.Contact{Tel: "tel:+1;ext=2"}, "TEL", `tel:+1\;ext=2`},
		{api.Contact{Groups: []string{"g"}}, "CATEGORIES", "g"}, {api.Contact{Groups: []string{"a", "b", "c"}}, "CATEGORIES", "a,b,c"}, {api.Contact{Groups: []string{","}}, "CATEGORIES", `\,`}, {api.Contact{Groups: []string{",", ";", `\`}}, "CATEGORIES", `\,,\;,\\`}, {api.Contact{Groups: []string{"a,b;c", "d"}}, "CATEGORIES", `a\,b\;c,d`},
		{api.Contact{Note: "\n"}, "NOTE", `\n`}, {api.Contact{Note: "a\n\tb,\\n"}, "NOTE", `a\n` + "\t" + `b\,\\n`}, {api.Contact{Uid: "urn:uuid:1"}, "UID", "urn:uuid:1"}, {api.Contact{Uid: "n"}, "UID", "n"},
	} {
		r.c.Name = "a"
		has(t, r.c, fn, prop(r.name, r.value))
		x := prop("X", `\x`)
		r.c.Other = []api.Prop{x}
		has(t, r.c, fn, prop(r.name, r.value), x)
	}
	has(t, api.Contact{Name: ";a\\,"}, prop("FN", `\;a\\\,`))
}

// What is left out of all leaves the order of the others.
func TestPropsButOne(t *testing.T) {
	all, _ := Props(full())
	gone := fields()[3:9]
	for i, name := range []string{"NICKNAME", "IMPP", "EMAIL", "TEL", "NOTE", "UID"} {
		c := full()
		gone[i](&c, "")
		at := slices.IndexFunc(all, func(p api.Prop) bool { return p.Name == name && p.Group == "" })
		propsIs(t, c, slices.Delete(slices.Clone(all), at, at+1), api.OK)
	}
	c := full()
	c.Family, c.Given = "", ""
	propsIs(t, c, slices.Delete(slices.Clone(all), 1, 2), api.OK)
	c = full()
	c.Groups = nil
	propsIs(t, c, slices.Delete(slices.Clone(all), 6, 7), api.OK)
	c = full()
	c.Other = nil
	propsIs(t, c, all[:9], api.OK)
}

// Other is told behind all else, as it is, known ones too, even where they are not known any more then, or only then.
func TestPropsOfOther(t *testing.T) {
	for _, l := range rowsOf(3, prop("UID", `\`), prop("FN", ""), prop("A", "1"), in("g", prop("N", "x")), prop("NOTE", "y", "A", "b", "C", ""), prop("IMPP", "xmpp:")) {
		has(t, api.Contact{Name: "a", Other: l}, append([]api.Prop{fn}, l...)...)
		has(t, api.Contact{Name: "a", Uid: "u", Other: l}, append([]api.Prop{fn, prop("UID", "u")}, l...)...)
	}
	uid := prop("UID", "u")
	c := api.Contact{Name: "a", Other: []api.Prop{uid}}
	has(t, c, fn, uid)
	ofIs(t, []api.Prop{fn, uid}, api.Contact{Name: "a", Uid: "u"}, api.OK)
}

// What follows, near MaxString, MaxGroups and MaxProps: all as much as may be.
func TestGreatContacts(t *testing.T) {
	for _, sign := range []string{"x", "é", "😀", ",", ";", `\`} {
		s := strings.Repeat(sign, 100)
		c := api.Contact{Name: s, Family: s, Given: s, Nick: s, Email: s, Tel: s, Uid: s, Note: strings.Repeat(sign+"\n", 250), Jid: strings.Repeat("l", 64) + "@" + strings.Repeat("h", 100)}
		for i := range 8 {
			c.Groups = append(c.Groups, strings.Repeat(sign, 99)+string(rune('A'+i)))
		}
		right(t, c)
		c.Other = slices.Repeat([]api.Prop{prop("X", strings.Repeat("é", 100), "A", s)}, 10)
		right(t, c)
		c.Other = slices.Repeat([]api.Prop{prop("X", `\`)}, 40)
		right(t, c)
		l, err := Props(c)
		if err != api.OK || len(l) != 49 {
			t.Fatalf("P12.1: Props of a great contact: %d of them, %d", len(l), err)
		}
		ofIs(t, l, c, api.OK)
		c.Groups = append(c.Groups, "\U0010fffd")
		wrong(t, c)
	}
}

// R3: what is handed in is not changed, nor the room behind its ends.
func TestPropsChangesNothing(t *testing.T) {
	given := func() api.Contact {
		c := full()
		params := []api.Attr{{Name: "A", Value: "b"}, {Name: "C", Value: "d"}}
		other := []api.Prop{prop("X", "y"), prop("Y", "z"), prop("Z", ""), prop("Z", "")}
		other[1].Params = params[:1]
		groups := []string{"a,b", "c", "b", "a"}
		c.Groups, c.Other = groups[:2], other[:2]
		return c
	}
	c, want := given(), given()
	Props(c)
	Right(c)
	if !same(c, want) || !slices.Equal(c.Groups[:4], want.Groups[:4]) || !sameProps(c.Other[:4], want.Other[:4]) || !slices.Equal(c.Other[1].Params[:2], want.Other[1].Params[:2]) {
		t.Errorf("R3: Props changed what it was given: %q", c)
	}
	c.Groups, want.Groups = c.Groups[:4], want.Groups[:4]
	Props(c)
	Right(c)
	if !same(c, want) {
		t.Errorf("R3: Props changed what is not Right: %q", c)
	}
}

// R3: what is handed out is new memory: neither what was handed in, nor what another answer has.
func TestPropsIsNew(t *testing.T) {
	c := full()
	c.Other = append(c.Other, c.Other[1]) // two with one list of parameters
	l, _ := Props(c)
	m, _ := Props(c)
	want := slices.Clone(m)
	l[0].Value, l[9].Name, l[10].Params[0].Value = "z", "z", "z"
	_, _, _ = append(l[:8], fn), append(l[:9], fn, fn), append(l[10].Params[:0], api.Attr{})
	if !sameProps(m, want) || c.Other[0].Name != "FN" || c.Other[1].Params[0].Value != "b" {
		t.Errorf("R3: who writes into properties changes others: %q, %q", m, c)
	}
	if l[11].Params[0].Value != "b" {
		t.Errorf("R3: two properties of one answer share their parameters: %q", l)
	}
	c.Other[0].Name, c.Other[1].Params[0].Value = "y", "y"
	if m[9].Name != "FN" || m[10].Params[0].Value != "b" {
		t.Errorf("R3: Props keeps what it was given: %q", m)
	}
	only := []api.Prop{prop("X", "y")}
	l, _ = Props(api.Contact{Name: "a", Other: only})
	l[1].Name = "Z"
	if only[0].Name != "X" {
		t.Errorf("R3: Props hands out what it was given")
	}
}
