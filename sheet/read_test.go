package sheet

import (
	"math/rand"
	"slices"
	"strings"
	"testing"

	"cardex/api"
)

// reads holds that rows are of the contacts want.
func reads(t *testing.T, l [][]string, want ...api.Contact) {
	t.Helper()
	readIs(t, l, want, 0, api.OK)
	held(t, l)
}

// fails holds that the row at of l is wrong, and that nothing is told beside err.
func fails(t *testing.T, l [][]string, at int, err api.Errno) {
	t.Helper()
	readIs(t, l, nil, at, err)
	held(t, l)
	if c, _, _ := Read(l); c != nil {
		t.Fatalf("R4: Read(%.400q): %.400q beside %d", l, c, err)
	}
}

// named is a contact of the Name "a".
func named(set ...func(c *api.Contact)) api.Contact {
	c := api.Contact{Name: "a"}
	for _, f := range set {
		f(&c)
	}
	return c
}

// sample is the name of a column, a field of it that is right, and what of a contact that says.
type sample struct {
	name, field string
	put         func(c *api.Contact)
}

// samples are one of each column.
func samples() []sample {
	return []sample{
		{"name", "Zo, b", func(c *api.Contact) { c.Name = "Zo, b" }},
		{"family", `f;\`, func(c *api.Contact) { c.Family = `f;\` }},
		{"given", `\x`, func(c *api.Contact) { c.Given = `\x` }},
		{"nick", `n\n`, func(c *api.Contact) { c.Nick = `n\n` }},
		{"jid", "A@B.", func(c *api.Contact) { c.Jid = "a@b" }},
		{"email", "mailto:e", func(c *api.Contact) { c.Email = "mailto:e" }},
		{"tel", "tel:+1;ext=2", func(c *api.Contact) { c.Tel = "tel:+1;ext=2" }},
		{"note", "x\n\ty\\", func(c *api.Contact) { c.Note = "x\n\ty\\" }},
		{"uid", "urn:uuid:1", func(c *api.Contact) { c.Uid = "urn:uuid:1" }},
		{"groups", `c;a\;b;;c`, func(c *api.Contact) { c.Groups = []string{"a;b", "c"} }},
	}
}

// said is the header and the row of the samples l, and what they say.
func said(l ...sample) ([][]string, api.Contact) {
	c := api.Contact{}
	header, row := []string{}, []string{}
	for _, s := range l {
		header, row = append(header, s.name), append(row, s.field)
		s.put(&c)
	}
	return [][]string{header, row}, c
}

func TestOrdinaryRows(t *testing.T) {
	reads(t, rows("name", "a"), named())
	reads(t, rows("Name|Family|Given|Groups|JID|Tel", "Juliet Capulet|Capulet|Juliet|Friends;Family|Juliet@Example.org|+1", "Nurse|||||", "Romeo|Montague|||romeo@example.net|"),
		api.Contact{Name: "Juliet Capulet", Family: "Capulet", Given: "Juliet", Jid: "juliet@example.org", Tel: "+1", Groups: []string{"Family", "Friends"}},
		api.Contact{Name: "Nurse"}, api.Contact{Name: "Romeo", Family: "Montague", Jid: "romeo@example.net"})
}

// The same row twice is two contacts: nothing is merged here.
func TestRowsInTheirOrder(t *testing.T) {
	reads(t, rows("jid|name", "x@y|b", "x@y|a", "x@y|b"), api.Contact{Name: "b", Jid: "x@y"}, api.Contact{Name: "a", Jid: "x@y"}, api.Contact{Name: "b", Jid: "x@y"})
}

func TestNoRows(t *testing.T) {
	reads(t, nil)
	reads(t, [][]string{})
	if l, at, err := Read(nil); l != nil || at != 0 || err != api.OK {
		t.Errorf("P13.1: Read of no rows: %q, %d, %d", l, at, err)
	}
}

// A header without a row, of each column beside name, and of all.
func TestHeaderAlone(t *testing.T) {
	reads(t, rows("name"))
	reads(t, rows("NAME"))
	reads(t, rows(strings.Join(toldNames, "|")))
	for _, s := range toldNames[1:] {
		reads(t, rows("name|"+s))
		reads(t, rows(s+"|name"))
		fails(t, rows(s), 0, api.ErrHeader)
	}
}

// Each column beside name, ahead of it and behind it; and each two beside it.
func TestEachColumn(t *testing.T) {
	l := samples()
	for i, s := range l[1:] {
		for _, some := range [][]sample{{l[0], s}, {s, l[0]}} {
			given, c := said(some...)
			reads(t, given, c)
		}
		for _, other := range l[i+2:] {
			for _, some := range [][]sample{{l[0], s, other}, {l[0], other, s}, {s, l[0], other}, {other, l[0], s}, {s, other, l[0]}, {other, s, l[0]}} {
				given, c := said(some...)
				reads(t, given, c)
			}
		}
	}
	given, c := said(l[0])
	reads(t, given, c)
}

// What no column says is not there.
func TestColumnsThatAreNotThere(t *testing.T) {
	for i := range samples()[1:] {
		l := slices.Delete(samples(), i+1, i+2)
		given, c := said(l...)
		reads(t, given, c)
		slices.Reverse(l)
		given, _ = said(l...)
		reads(t, given, c)
	}
}

// All columns in many orders: they say the same.
func TestAllColumnsInAnyOrder(t *testing.T) {
	l := samples()
	given, c := said(l...)
	reads(t, given, c)
	for i := range l {
		given, _ = said(append(slices.Clone(l[i:]), l[:i]...)...)
		reads(t, given, c)
	}
	chance := rand.New(rand.NewSource(2))
	for range 1_000 {
		chance.Shuffle(len(l), func(i, j int) { l[i], l[j] = l[j], l[i] })
		given, _ = said(l...)
		reads(t, given, c)
	}
}

// Each column's name in all capitals that there are of it.
func TestCapitals(t *testing.T) {
	for _, s := range samples() {
		for _, name := range capitalsOf(s.name) {
			s.name = name
			given, c := said(s)
			if !strings.EqualFold(name, "name") {
				given, c = said(s, samples()[0])
				fails(t, rows(name), 0, api.ErrHeader)
			}
			reads(t, given, c)
		}
	}
	l := samples()
	for i := range l {
		l[i].name = strings.ToUpper(l[i].name)
	}
	given, c := said(l...)
	reads(t, given, c)
}

// capitalsOf is s, of letters, in all capitals that there are of it.
func capitalsOf(s string) []string {
	all := []string{""}
	for i := range s {
		var longer []string
		for _, ahead := range all {
			longer = append(longer, ahead+s[i:i+1], ahead+strings.ToUpper(s[i:i+1]))
		}
		all = longer
	}
	return all
}

// headless holds that header is none, whatever is behind it.
func headless(t *testing.T, header ...string) {
	t.Helper()
	fields := slices.Repeat([]string{"a"}, len(header))
	fails(t, [][]string{header}, 0, api.ErrHeader)
	fails(t, [][]string{header, fields}, 0, api.ErrHeader)
	fails(t, [][]string{header, {"name"}, {"a"}}, 0, api.ErrHeader)
	fails(t, [][]string{header, nil, {`\`}}, 0, api.ErrHeader)
	fails(t, append([][]string{header}, make([][]string, 60)...), 0, api.ErrHeader)
	fails(t, append([][]string{header}, make([][]string, 61)...), 0, api.ErrHeader)
}

func TestNoHeader(t *testing.T) {
	headless(t)
	headless(t, []string{}...)
	headless(t, "")
	headless(t, "", "")
	headless(t, "a", "b")
	headless(t, "fn")
	headless(t, "name,family")
	headless(t, "name;family")
	headless(t, "other", "name")
	headless(t, "name", "other")
	headless(t, "name", "")
	headless(t, "", "name")
	headless(t, append(slices.Clone(toldNames), "")...)
	headless(t, append(slices.Clone(toldNames), "x")...)
	headless(t, append(slices.Clone(toldNames), toldNames...)...)
}

// A row that names columns, but not name.
func TestNoName(t *testing.T) {
	headless(t, toldNames[1:]...)
	for i := range toldNames {
		headless(t, toldNames[i:i]...)
		for j := i + 1; j < len(toldNames); j++ {
			headless(t, toldNames[max(i, 1):j+1]...)
		}
	}
}

// Names that are near to one, alone, as the last one of all, and in the place of it.
func TestNearNames(t *testing.T) {
	for i, s := range toldNames {
		for _, near := range []string{s + "s", "x" + s, s[1:], s[:len(s)-1], s + s, s[:1], " " + s, s + " ", "\t" + s, s + "\t", s + "\n", s + "\r", s + "\x00", "\ufeff" + s, s + "\u00ad", `"` + s + `"`, s + ":", s + ";", `\` + s, s[:1] + " " + s[1:], s[:1] + "\xff" + s[2:], s[:1] + "*" + s[2:], string(rune(s[0])+0xfee0) + s[1:]} {
			headless(t, near)
			headless(t, "name", near)
			headless(t, near, "name")
			all := slices.Clone(toldNames)
			all[i] = near
			headless(t, all...)
			headless(t, append(slices.Clone(toldNames), near)...)
		}
	}
	// Signs beyond ASCII that fold to a k, or an s, are no letters of a name.
	for _, near := range []string{"nic\u212a", "NIC\u212a", "group\u017f", "GROUP\u017f"} {
		headless(t, "name", near)
		headless(t, near, "name")
	}
}

// The same column twice, next to each other and not, also in other capitals.
func TestTwice(t *testing.T) {
	for i, s := range toldNames {
		for _, again := range []string{s, strings.ToUpper(s), strings.ToUpper(s[:1]) + s[1:]} {
			headless(t, s, again)
			headless(t, "name", s, again)
			headless(t, again, "name", s)
			headless(t, again, s, "name")
			headless(t, append(slices.Clone(toldNames), again)...)
			headless(t, append([]string{again}, toldNames...)...)
			headless(t, s, again, s)
			all := slices.Clone(toldNames)
			all[(i+1)%10] = again
			headless(t, all...)
		}
	}
}

// MaxCards rows behind the header, and more; which of them is wrong does not count then.
func TestHowManyRows(t *testing.T) {
	var want []api.Contact
	l := rows("name|tel")
	for i := range 60 {
		reads(t, l, want...)
		tel := strings.Repeat("1", i)
		l = append(l, []string{"a", tel})
		want = append(want, api.Contact{Name: "a", Tel: tel})
	}
	reads(t, l, want...)
	for _, more := range [][]string{{"a", ""}, nil, {"a"}, {"", ""}} {
		fails(t, append(slices.Clone(l), more), 0, api.ErrBig)
	}
	for at := range l {
		wrong := append(slices.Clone(l), []string{"a", ""})
		wrong[at] = []string{"", "\n"}
		err := api.ErrBig
		if at == 0 {
			err = api.ErrHeader
		}
		fails(t, wrong, 0, err)
	}
	fails(t, append(rows("name"), make([][]string, 61)...), 0, api.ErrBig)
	fails(t, append(rows("name"), make([][]string, 10_000)...), 0, api.ErrBig)
	fails(t, append(rows("name"), make([][]string, 60)...), 1, api.ErrValue)
	fails(t, append(rows("nam"), make([][]string, 61)...), 0, api.ErrHeader)
}

// wrongRow holds that a row is wrong, be it the first one, the last one, or one between, of one row, of some, and of as many as may be.
func wrongRow(t *testing.T, header, right, wrong []string, err api.Errno) {
	t.Helper()
	for _, n := range []int{1, 2, 3, 60} {
		for at := range n {
			if n == 60 && at > 2 && at < 57 && at != 30 {
				continue
			}
			l := append([][]string{header}, slices.Repeat([][]string{right}, n)...)
			l[at+1] = wrong
			fails(t, l, at+1, err)
		}
	}
}

// Rows of fewer fields than the header, and of more.
func TestHowManyFields(t *testing.T) {
	for n := 1; n <= 10; n++ {
		header, right := toldNames[:n], append([]string{"a"}, make([]string, n-1)...)
		for m := range 13 {
			row := append([]string{"a"}, make([]string, 12)...)[:m]
			if m == n {
				reads(t, [][]string{header, row}, named())
				continue
			}
			wrongRow(t, header, right, row, api.ErrValue)
		}
	}
	wrongRow(t, []string{"name"}, []string{"a"}, nil, api.ErrValue)
	wrongRow(t, []string{"name"}, []string{"a"}, []string{}, api.ErrValue)
	wrongRow(t, []string{"name"}, []string{"a"}, []string{"a", ""}, api.ErrValue)
	wrongRow(t, []string{"name", "jid"}, []string{"a", ""}, []string{"a"}, api.ErrValue)
	wrongRow(t, []string{"name"}, []string{"a"}, make([]string, 1_000), api.ErrValue)
}

// jid: "", or what jid.Bare makes of it.
func TestJids(t *testing.T) {
	host, local := strings.Repeat("h", 100), strings.Repeat("l", 64)
	for _, r := range []struct{ field, jid string }{
		{"", ""}, {"b", "b"}, {"a@b", "a@b"}, {"A@B", "a@b"}, {"B.", "b"}, {"ROMEO@Example.ORG", "romeo@example.org"}, {"Straße@STRASSE", "strasse@strasse"}, {"\u00ada@b", "a@b"},
		{`a;,\b@c`, `a;,\b@c`}, {`a\;b@c`, `a\;b@c`}, {`\x@c`, `\x@c`}, {local + "@" + host, local + "@" + host}, {strings.ToUpper(local + "@" + host), local + "@" + host},
	} {
		with := named(func(c *api.Contact) { c.Jid = r.jid })
		reads(t, [][]string{{"name", "jid"}, {"a", r.field}}, with)
		reads(t, [][]string{{"jid", "name"}, {"", "b"}, {r.field, "a"}, {r.field, "a"}}, api.Contact{Name: "b"}, with, with)
	}
}

// wrongJids are fields of jid that are none, and the error of each.
var wrongJids = []struct {
	field string
	err   api.Errno
}{
	{"@", api.ErrJid}, {"a@", api.ErrJid}, {"@b", api.ErrJid}, {"a@b/c", api.ErrJid}, {"a@b/", api.ErrJid}, {"b/c", api.ErrJid}, {"/", api.ErrJid}, {".", api.ErrJid}, {"a@-b", api.ErrJid}, {"a..b", api.ErrJid}, {"\u00ad", api.ErrJid},
	{strings.Repeat("h", 101), api.ErrJid}, {strings.Repeat("l", 65) + "@b", api.ErrJid},
	{" ", api.ErrChar}, {" @b", api.ErrChar}, {"a b@c", api.ErrChar}, {"a@b_c", api.ErrChar}, {"a@b@c", api.ErrChar}, {"xmpp:a@b", api.ErrChar}, {"a@b ", api.ErrChar}, {"a@b\n", api.ErrChar}, {`a@b\`, api.ErrChar}, {"a@b;c@d", api.ErrChar},
	{"\xff", api.ErrUtf}, {"a@b\xff", api.ErrUtf}, {"a@\x00", api.ErrUtf}, {"\uffff@b", api.ErrUtf},
	{"\u05d0a@b", api.ErrBidi}, {"a@\u05d01", api.ErrBidi}, {"\u05d01", api.ErrBidi},
}

func TestWrongJids(t *testing.T) {
	for _, r := range wrongJids {
		wrongRow(t, []string{"name", "jid"}, []string{"a", "x@y"}, []string{"a", r.field}, r.err)
		wrongRow(t, []string{"Jid", "tel", "name"}, []string{"", "", "a"}, []string{r.field, "", "b"}, r.err)
	}
}

// grouped holds that field says the groups want, and nothing else.
func grouped(t *testing.T, field string, want ...string) {
	t.Helper()
	c := named(func(c *api.Contact) { c.Groups = want })
	reads(t, [][]string{{"name", "groups"}, {"a", field}}, c)
	reads(t, [][]string{{"groups", "uid", "name"}, {"", "", "b"}, {field, "", "a"}, {"z", "", "b"}}, api.Contact{Name: "b"}, c, api.Contact{Name: "b", Groups: []string{"z"}})
}

func TestGroups(t *testing.T) {
	grouped(t, "")
	grouped(t, ";")
	grouped(t, ";;;;;;;;;;;;")
	grouped(t, "a", "a")
	grouped(t, "a;b", "a", "b")
	grouped(t, "b;a", "a", "b")
	grouped(t, "c;a;b", "a", "b", "c")
	grouped(t, ";a;;b;", "a", "b")
	grouped(t, ";;b;;;a;;", "a", "b")
	grouped(t, "a;a", "a")
	grouped(t, "b;a;b;a;b", "a", "b")
	grouped(t, "a,b", "a,b")
	grouped(t, "a,b;a", "a", "a,b")
	grouped(t, `a\,b;a,b`, "a,b")
	grouped(t, `a\;b`, "a;b")
	grouped(t, `a\;b;a`, "a", "a;b")
	grouped(t, `\;`, ";")
	grouped(t, `\;;\;`, ";")
	grouped(t, `\,;\;;\\`, ",", ";", `\`)
	grouped(t, `a\\;b`, `a\`, "b")
	grouped(t, `a\\\;b`, `a\;b`)
	grouped(t, `\\n`, `\n`)
	grouped(t, " ; a; a ", " ", " a", " a ")
	grouped(t, "é;z;Z;日;😀", "Z", "z", "é", "日", "😀")
	grouped(t, "aa;a;ab;b;A", "A", "a", "aa", "ab", "b")
	grouped(t, "\U00010000;\ufffd", "\ufffd", "\U00010000")
	grouped(t, "1;2;3;4;5;6;7;8", "1", "2", "3", "4", "5", "6", "7", "8")
	grouped(t, "8;7;6;5;4;3;2;1", "1", "2", "3", "4", "5", "6", "7", "8")
	grouped(t, ";5;2;3;;4;1;6;7;8;;5;1;", "1", "2", "3", "4", "5", "6", "7", "8")
	grouped(t, strings.Repeat("8;;1;7;2;6;3;5;4;", 100), "1", "2", "3", "4", "5", "6", "7", "8")
	grouped(t, strings.Repeat("a;", 1_000), "a")
	long := strings.Repeat("é", 100)
	grouped(t, long+";a", "a", long)
	grouped(t, strings.Repeat(`\;`, 100)+";a", strings.Repeat(";", 100), "a")
}

// An escape that fold does not know, or one that is cut off, in whatever part.
func TestNoEscapes(t *testing.T) {
	for _, field := range []string{`\`, `\x`, `a\`, `a\x`, `a;\x`, `\x;a`, `a;\x;b`, `a;b\`, `;\`, `a\ ;b`, `\:`, `\t`, `\r`, `\"`, `\é`, "\\\n", "\\\xff", `\\\`, `\;\`, `a\;\x`, `\n\x`, `\n;\x`, `1;2;3;4;5;6;7;8;9;\x`, strings.Repeat("x", 600) + `\x`, strings.Repeat("a;", 1_000) + `\`, "\xff;\\x", "\xff\\x"} {
		wrongRow(t, []string{"name", "groups"}, []string{"a", `b\;`}, []string{"a", field}, api.ErrEscape)
		wrongRow(t, []string{"groups", "name"}, []string{"", "a"}, []string{field, ""}, api.ErrEscape)
	}
}

// Groups that no contact may have.
func TestWrongGroups(t *testing.T) {
	long := strings.Repeat("é", 101)
	for _, field := range []string{"1;2;3;4;5;6;7;8;9", "9;8;7;6;5;4;3;2;1", ";9;8;7;6;5;;4;3;2;1;9;9", `\n`, `\N`, `a\nb`, `a;b\n`, "a\n", "\t;a", "a;\r", "\r\n", "\x00", "a;\x1f", "\xff", "a;\xc3;b", "\uffff", long, "a;" + long + ";b", strings.Repeat(`\;`, 101), strings.Repeat(`\\`, 101)} {
		wrongRow(t, []string{"name", "groups"}, []string{"a", "b"}, []string{"a", field}, api.ErrValue)
		wrongRow(t, []string{"groups", "name"}, []string{"b", "a"}, []string{field, "b"}, api.ErrValue)
	}
}

// texts are the columns whose fields are told as they are.
func texts() []sample {
	return slices.DeleteFunc(samples(), func(s sample) bool { return s.name == "jid" || s.name == "groups" })
}

// of is rows of one row, with the field s in the column of that name.
func of(name, s string) [][]string {
	if name == "name" {
		return [][]string{{"name", "uid"}, {s, ""}}
	}
	return [][]string{{"name", name}, {"a", s}}
}

// with is a contact with s in the field of the column of that name.
func with(name, s string) api.Contact {
	c := named()
	fields()[slices.Index(toldNames, name)](&c, s)
	return c
}

// The other columns' texts: no escape, no sep, no capitals.
func TestTextsAsTheyAre(t *testing.T) {
	for _, x := range texts() {
		for _, s := range []string{"A", " ", " a ", ",", ";", `\`, `\\`, `\n`, `\N`, `\,`, `\;`, `\x`, `a\`, `a;b,c\d`, ";;;;", `f\;;g`, "a|b", `"a"`, "é日😀", "\x7f", "\u0085", "\u00ad", "\ufffd", "xmpp:A@B", "A@B/c", "name", strings.Repeat("x", 99), strings.Repeat("x", 100), strings.Repeat("é", 100), strings.Repeat("😀", 100), strings.Repeat(`\;`, 50)} {
			reads(t, of(x.name, s), with(x.name, s))
		}
		if x.name != "name" {
			reads(t, of(x.name, ""), named())
		}
	}
	for _, s := range []string{"\n", "\t", "a\n\n\tb", strings.Repeat("x", 500), strings.Repeat("😀", 500), strings.Repeat("é\n", 250)} {
		reads(t, of("note", s), with("note", s))
	}
}

// Texts that no contact may have.
func TestWrongTexts(t *testing.T) {
	wrongRow(t, []string{"name"}, []string{"a"}, []string{""}, api.ErrValue)
	wrongRow(t, toldNames, append([]string{"a"}, make([]string, 9)...), make([]string, 10), api.ErrValue)
	wrongRow(t, []string{"nick", "name"}, []string{"k", "a"}, []string{"k", ""}, api.ErrValue)
	always := []string{"\r", "a\r\nb", "\x00", "\x01", "\x08", "\x0b", "\x0c", "\x1f", "a\x1fb", "\xff", "a\xff", "\x80", "\xc3", "\xc0\x80", "\xed\xa0\x80", "\xf4\x90\x80\x80", "\ufffe", "\uffff", strings.Repeat("x", 501), strings.Repeat("é", 501), strings.Repeat("x", 500) + "\n"}
	lines := []string{"\t", "\n", "a\tb", "a\n", strings.Repeat("x", 101), strings.Repeat("é", 101), strings.Repeat("😀", 101), strings.Repeat("x", 100) + " "}
	for _, x := range texts() {
		all := always
		if x.name != "note" {
			all = append(lines, always...)
		}
		for _, s := range all {
			l := of(x.name, s)
			wrongRow(t, l[0], []string{"a", ""}, l[1], api.ErrValue)
		}
	}
}

// Which error counts in one row, in whatever order its columns stand: the fields' number, jid, groups, then the rest.
func TestWhichErrorCounts(t *testing.T) {
	for _, header := range permutations([]string{"name", "jid", "groups", "tel"}) {
		row := func(name, jid, groups, tel string) []string {
			fields := map[string]string{"name": name, "jid": jid, "groups": groups, "tel": tel}
			var l []string
			for _, s := range header {
				l = append(l, fields[s])
			}
			return l
		}
		right := row("a", "x@y", "b", "1")
		counts := func(wrong []string, err api.Errno) {
			fails(t, [][]string{header, wrong}, 1, err)
			fails(t, [][]string{header, right, wrong, nil}, 2, err)
		}
		for _, r := range wrongJids {
			counts(row("a", r.field, `\`, "1"), r.err)
			counts(row("", r.field, `\`, "\n"), r.err)
			counts(row("", r.field, "b", ""), r.err)
			counts(row("a", r.field, "\n", "\r"), r.err)
			counts(append(row("", r.field, `\`, "\n"), ""), api.ErrValue)
			counts(row("", r.field, `\`, "\n")[:3], api.ErrValue)
		}
		for _, groups := range []string{`\`, `a;\x`, `1;2;3;4;5;6;7;8;9;\`, "\n;\\ "} {
			counts(row("", "", groups, ""), api.ErrEscape)
			counts(row("a", "x@y", groups, "\xff"), api.ErrEscape)
			counts(append(row("a", "", groups, "1"), "z"), api.ErrValue)
			counts(row("a", "", groups, "1")[:2], api.ErrValue)
		}
		counts(row("", "", "\n", "1"), api.ErrValue)
	}
}

// permutations are all orders of l.
func permutations(l []string) [][]string {
	if len(l) == 0 {
		return [][]string{nil}
	}
	var all [][]string
	for i, s := range l {
		rest := slices.Delete(slices.Clone(l), i, i+1)
		for _, behind := range permutations(rest) {
			all = append(all, append([]string{s}, behind...))
		}
	}
	return all
}

// Which error counts of two rows: that of the one ahead, whatever is wrong there.
func TestWhichRowCounts(t *testing.T) {
	wrongs := []struct {
		row []string
		err api.Errno
	}{
		{nil, api.ErrValue}, {[]string{"a"}, api.ErrValue}, {[]string{"a", "x@y", "b", ""}, api.ErrValue}, {[]string{"a", "@", ""}, api.ErrJid}, {[]string{"", " ", `\`}, api.ErrChar}, {[]string{"a", "\xff", ""}, api.ErrUtf},
		{[]string{"a", "\u05d01", ""}, api.ErrBidi}, {[]string{"a", "", `\x`}, api.ErrEscape}, {[]string{"", "", ""}, api.ErrValue}, {[]string{"a\n", "x@y", "b"}, api.ErrValue}, {[]string{"a", "x@y", "b\n"}, api.ErrValue},
	}
	header, right := []string{"name", "jid", "groups"}, []string{"a", "x@y", "b"}
	for _, a := range wrongs {
		for _, b := range wrongs {
			fails(t, [][]string{header, a.row, b.row}, 1, a.err)
			fails(t, [][]string{header, right, a.row, b.row}, 2, a.err)
			fails(t, [][]string{header, right, a.row, right, b.row, right}, 2, a.err)
			fails(t, [][]string{header, right, right, right, a.row, right, right, b.row}, 4, a.err)
		}
		fails(t, [][]string{{"jid", "groups"}, a.row}, 0, api.ErrHeader)
	}
}

// R3: what is handed in is not changed, nor the room behind its ends.
func TestReadChangesNothing(t *testing.T) {
	given := func() [][]string {
		fields := []string{"Name", "GROUPS", "jid", "behind", "a", "c;b;;a;b", "A@B", "behind", "b", `\`, "@", "behind"}
		l := [][]string{fields[:3], fields[4:7], fields[8:11], {"behind"}}
		return l
	}
	for n := range 5 {
		l, want := given(), given()
		Read(l[:n])
		if !sameRows(l, want) || !slices.Equal(l[0][:12], want[0][:12]) {
			t.Fatalf("R3: Read changed what it was given: %q", l[0][:12])
		}
	}
}

// R3: what is handed out is new memory: no two contacts share any, nor two answers.
func TestReadIsNew(t *testing.T) {
	l := rows("name|groups", "a|c;b;a", "b|c;b;a")
	l = append(l, l[1]) // the same row twice
	given := [][]string{slices.Clone(l[0]), slices.Clone(l[1]), slices.Clone(l[2]), slices.Clone(l[3])}
	c, _, _ := Read(l)
	d, _, _ := Read(l)
	groups := []string{"a", "b", "c"}
	want := []api.Contact{{Name: "a", Groups: groups}, {Name: "b", Groups: groups}, {Name: "a", Groups: groups}}
	for i := range c {
		for at := range c[i].Groups {
			c[i].Groups[at] = "z"
		}
		_ = append(c[i].Groups[:1], "y", "y", "y", "y")
		_ = append(c[i].Groups, "y", "y", "y")
		if i < 2 && !same(c[i+1], want[i+1]) {
			t.Errorf("R3: two contacts of one answer share their groups: %q", c)
		}
		c[i].Name = "y"
	}
	_ = append(c[:1], api.Contact{}, api.Contact{})
	if !slices.EqualFunc(d, want, same) || !sameRows(l, given) {
		t.Errorf("R3: who writes into contacts changes others: %q, %q", d, l)
	}
	clear(l[1])
	l[0], l[2] = nil, nil
	if !slices.EqualFunc(d, want, same) {
		t.Errorf("R3: Read keeps what it was given: %q", d)
	}
	readIs(t, given, want, 0, api.OK)
}
