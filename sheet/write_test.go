package sheet

import (
	"slices"
	"strings"
	"testing"

	"cardex/api"
)

// full is a contact that has something everywhere but in Other.
func full() api.Contact {
	return api.Contact{Name: "a,b", Family: "f;", Given: `g\`, Nick: "n", Jid: `a;,\b@c`, Email: "e", Tel: "t", Note: "x\ny", Uid: "u", Groups: []string{"a,b", "c"}}
}

// header is what is written first.
func header() []string { return slices.Clone(toldNames) }

// writes holds that the contacts l are written as the rows behind the header, and are read from there as they were.
func writes(t *testing.T, l []api.Contact, behind ...[]string) {
	t.Helper()
	writeIs(t, l, append([][]string{header()}, behind...), api.OK)
	heldWrite(t, l)
}

// refuses holds that l is not written, and that nothing is told beside the error.
func refuses(t *testing.T, l ...api.Contact) {
	t.Helper()
	writeIs(t, l, nil, api.ErrValue)
	heldWrite(t, l)
	if rows, _ := Write(l); rows != nil {
		t.Fatalf("R4: Write(%.400q): %.400q beside an error", l, rows)
	}
}

// goes holds that no list with c is written: c first, last and between, of some, and of as many as may be.
func goes(t *testing.T, c api.Contact) {
	t.Helper()
	refuses(t, c)
	refuses(t, c, named())
	refuses(t, full(), c)
	refuses(t, full(), c, named())
	refuses(t, c, c)
	many := slices.Repeat([]api.Contact{named()}, 60)
	for _, at := range []int{0, 1, 30, 58, 59} {
		l := slices.Clone(many)
		l[at] = c
		refuses(t, l...)
	}
	refuses(t, append(many, c)...)
}

func TestNothingWritten(t *testing.T) {
	writes(t, nil)
	writes(t, []api.Contact{})
	if rows, err := Write(nil); len(rows) != 1 || strings.Join(rows[0], "|") != "name|family|given|nick|jid|email|tel|note|uid|groups" || err != api.OK {
		t.Errorf("P13.1: Write of nothing: %q, %d", rows, err)
	}
}

func TestOrdinaryWritten(t *testing.T) {
	writes(t, []api.Contact{{Name: "Juliet Capulet", Family: "Capulet", Given: "Juliet", Jid: "juliet@example.org", Tel: "+1", Note: "no\n\tNurse", Groups: []string{"Family", "Friends"}}, {Name: "Nurse"}},
		[]string{"Juliet Capulet", "Capulet", "Juliet", "", "juliet@example.org", "", "+1", "no\n\tNurse", "", "Family;Friends"}, []string{"Nurse", "", "", "", "", "", "", "", "", ""})
}

func TestAllWritten(t *testing.T) {
	row := []string{"a,b", "f;", `g\`, "n", `a;,\b@c`, "e", "t", "x\ny", "u", `a\,b;c`}
	writes(t, []api.Contact{full()}, row)
	writes(t, []api.Contact{full(), full()}, row, row)
	writes(t, []api.Contact{{Name: "z"}, full(), {Name: "y", Uid: "1"}}, []string{"z", "", "", "", "", "", "", "", "", ""}, row, []string{"y", "", "", "", "", "", "", "", "1", ""})
}

// Each field alone beside a Name, in its column, as it is; and all but it.
func TestEachFieldAlone(t *testing.T) {
	for at, name := range toldNames {
		text := "c@d"
		for _, c := range []api.Contact{named(), full()} {
			row := []string{"a", "", "", "", "", "", "", "", "", ""}
			if c.Jid != "" {
				row = []string{"a,b", "f;", `g\`, "n", `a;,\b@c`, "e", "t", "x\ny", "u", `a\,b;c`}
			}
			fields()[at](&c, text)
			row[at] = text
			writes(t, []api.Contact{c}, row)
			if name == "name" {
				continue
			}
			fields()[at](&c, "")
			if name == "groups" {
				c.Groups = nil
			}
			row[at] = ""
			writes(t, []api.Contact{c}, row)
		}
	}
	c := named()
	c.Groups, c.Other = []string{}, []api.Prop{}
	writes(t, []api.Contact{c}, []string{"a", "", "", "", "", "", "", "", "", ""})
}

// The texts, but for groups, have no escapes.
func TestTextsWritten(t *testing.T) {
	for at, name := range toldNames {
		if name == "jid" || name == "groups" {
			continue
		}
		for _, s := range []string{",", ";", `\`, `\\`, `\n`, `\;`, "a;b,c\\d", " ", `"`, "|", "é日😀", "\x7f", "\u00ad", strings.Repeat(";", 100), strings.Repeat("😀", 100)} {
			row := []string{"a", "", "", "", "", "", "", "", "", ""}
			row[at] = s
			writes(t, []api.Contact{with(name, s)}, row)
		}
	}
	for _, s := range []string{"\n", "\t", "a\nb\n", strings.Repeat("\n", 500), strings.Repeat("é", 500), strings.Repeat(`\`, 500)} {
		writes(t, []api.Contact{with("note", s)}, []string{"a", "", "", "", "", "", "", s, "", ""})
	}
	for _, s := range []string{"b", "a@b", `a;,\b@c`, `;@c`, `\@c`, "é@é", strings.Repeat("l", 64) + "@" + strings.Repeat("h", 100)} {
		writes(t, []api.Contact{with("jid", s)}, []string{"a", "", "", "", s, "", "", "", "", ""})
	}
}

// Groups: with ";" between, and escapes in them.
func TestGroupsWritten(t *testing.T) {
	for _, r := range []struct {
		field  string
		groups []string
	}{
		{"", nil}, {"g", []string{"g"}}, {"a;b", []string{"a", "b"}}, {"a;b;c", []string{"a", "b", "c"}}, {" ", []string{" "}}, {" ; a", []string{" ", " a"}}, {`\;`, []string{";"}}, {`\,`, []string{","}}, {`\\`, []string{`\`}},
		{`\,;\;;\\`, []string{",", ";", `\`}}, {`a\;b;c`, []string{"a;b", "c"}}, {`a;b\;`, []string{"a", "b;"}}, {`\;a;b`, []string{";a", "b"}}, {`a\\;b`, []string{`a\`, "b"}}, {`a\\\;b`, []string{`a\;b`}}, {`\\n;n`, []string{`\n`, "n"}}, {`\\\\;a`, []string{`\\`, "a"}},
		{"1;2;3;4;5;6;7;8", []string{"1", "2", "3", "4", "5", "6", "7", "8"}}, {strings.Repeat(`\;`, 100), []string{strings.Repeat(";", 100)}}, {"z;é;日;😀", []string{"z", "é", "日", "😀"}}, {`"`, []string{`"`}},
	} {
		c := named(func(c *api.Contact) { c.Groups = r.groups })
		writes(t, []api.Contact{c}, []string{"a", "", "", "", "", "", "", "", "", r.field})
		writes(t, []api.Contact{named(), c}, []string{"a", "", "", "", "", "", "", "", "", ""}, []string{"a", "", "", "", "", "", "", "", "", r.field})
	}
}

// MaxCards contacts are written, in their order; one more is not.
func TestHowManyContacts(t *testing.T) {
	var l []api.Contact
	var behind [][]string
	for i := range 60 {
		uid := strings.Repeat("1", i)
		l = append(l, api.Contact{Name: "a", Uid: uid})
		behind = append(behind, []string{"a", "", "", "", "", "", "", "", uid, ""})
		writes(t, l, behind...)
	}
	refuses(t, append(l, named())...)
	refuses(t, append(l, full())...)
	refuses(t, append(l, api.Contact{})...)
	refuses(t, slices.Repeat(l, 100)...)
	refuses(t, make([]api.Contact, 61)...)
}

// With Other, however right, none is written.
func TestOtherWritten(t *testing.T) {
	for _, p := range []api.Prop{{Name: "X", Value: "y"}, {Name: "FN"}, {Group: "g", Name: "NOTE", Value: "n"}, {Name: "CATEGORIES", Params: []api.Attr{{Name: "A", Value: "b"}}}, {}, {Name: "x"}} {
		c := named()
		c.Other = []api.Prop{p}
		goes(t, c)
		c = full()
		c.Other = slices.Repeat([]api.Prop{p}, 40)
		goes(t, c)
	}
}

// Contacts that are not Right, each for its own reason.
func TestNotRightWritten(t *testing.T) {
	goes(t, api.Contact{})
	for at, name := range toldNames {
		c := full()
		c.Name = ""
		fields()[at](&c, "")
		goes(t, c)
		if name == "jid" {
			continue
		}
		for _, s := range []string{"\r", "a\r\n", "\x00", "\x0b", "\x1f", "\xff", "a\xc3", "\xed\xa0\x80", "\ufffe", "\uffff", strings.Repeat("x", 501), strings.Repeat("é", 501)} {
			goes(t, with(name, s))
			c := full()
			fields()[at](&c, s)
			goes(t, c)
		}
		for _, s := range []string{"\n", "\t", "a\nb", strings.Repeat("x", 101), strings.Repeat("é", 101)} {
			if name != "note" {
				goes(t, with(name, s))
			}
		}
	}
	for _, s := range []string{"A@b", "a@b.", "a@b/c", "a@b/", "@", " ", "a b@c", "\xff", "a@b\n", "\u05d01", "ß@b", "\u00ada@b", strings.Repeat("h", 101)} {
		goes(t, with("jid", s))
	}
	for _, groups := range [][]string{{""}, {"", "a"}, {"a", ""}, {"a", "a"}, {"b", "a"}, {"a", "c", "b"}, {"a", "A"}, {"1", "2", "3", "4", "5", "6", "7", "8", "9"}, {"a", "\n"}, {"a", strings.Repeat("x", 101)}} {
		goes(t, named(func(c *api.Contact) { c.Groups = groups }))
	}
}

// What follows, near MaxString, MaxGroups and MaxCards: all as much as may be.
func TestGreatContacts(t *testing.T) {
	for _, sign := range []string{"x", "é", "😀", ",", ";", `\`, " "} {
		s := strings.Repeat(sign, 100)
		c := api.Contact{Name: s, Family: s, Given: s, Nick: s, Email: s, Tel: s, Uid: s, Note: strings.Repeat(sign+"\n", 250), Jid: strings.Repeat("l", 64) + "@" + strings.Repeat("h", 100)}
		for i := range 8 {
			c.Groups = append(c.Groups, strings.Repeat(sign, 99)+string(rune('A'+i)))
		}
		l := slices.Repeat([]api.Contact{c}, 60)
		if !heldWrite(t, l) {
			t.Fatalf("P13.1: not written: %.800q", l)
		}
		refuses(t, append(l, c)...)
		for _, set := range fields()[:9] {
			c := c
			set(&c, strings.Repeat(sign, 501))
			goes(t, c)
		}
		c.Groups = append(c.Groups, "\U0010fffd")
		goes(t, c)
	}
}

// R3: what is handed in is not changed, nor the room behind its ends.
func TestWriteChangesNothing(t *testing.T) {
	given := func() []api.Contact {
		groups := []string{"a,b", "c", "b", "a"}
		other := []api.Prop{{Name: "X"}, {Name: "Y"}}
		l := []api.Contact{full(), named(), {}, full()}
		l[0].Groups, l[0].Other, l[1].Groups, l[3].Other = groups[:2], other[:0], groups, other[:1]
		return l
	}
	for n := range 5 {
		l, want := given(), given()
		Write(l[:n])
		for i := range l {
			if l[i].Name != want[i].Name || l[i].Uid != want[i].Uid || !slices.Equal(l[i].Groups, want[i].Groups) {
				t.Fatalf("R3: Write changed what it was given: %q", l)
			}
		}
		if !slices.Equal(l[0].Groups[:4], want[0].Groups[:4]) || l[0].Other[:2][0].Name != "X" || l[3].Other[:2][1].Name != "Y" {
			t.Fatalf("R3: Write changed what is behind: %q", l)
		}
	}
}

// R3: what is handed out is new memory, one row apart from the next, one header from another.
func TestWriteIsNew(t *testing.T) {
	l := []api.Contact{full(), {Name: "b", Groups: []string{"g"}}, full()}
	want, _ := toldWrite(l)
	m, _ := Write(l)
	for i := range m {
		written, _ := Write(l)
		for at := range written[i] {
			written[i][at] = "z"
		}
		_ = append(written[i], "y", "y", "y", "y", "y", "y", "y", "y", "y", "y")
		_ = append(written[i][:0], make([]string, 10)...)
		for j := range written {
			if j != i && !slices.Equal(written[j], want[j]) {
				t.Errorf("R3: two rows of one answer share their fields: %q", written)
			}
		}
		written[i] = nil
		_ = append(written[:0], nil, nil, nil, nil)
	}
	if !sameRows(m, want) {
		t.Errorf("R3: who writes into rows changes others: %q", m)
	}
	l[0].Name, l[0].Groups[0], l[1].Groups[0] = "z", "z", "z"
	if !sameRows(m, want) {
		t.Errorf("R3: Write keeps what it was given: %q", m)
	}
	if n, _ := Write(nil); !slices.Equal(n[0], toldNames) {
		t.Errorf("R3: the header was changed: %q", n)
	}
}
