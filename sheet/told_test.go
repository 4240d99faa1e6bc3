package sheet

import (
	"math/rand"
	"slices"
	"strings"
	"testing"

	"cardex/api"
	"cardex/contact"
	"cardex/fold"
	"cardex/jid"
)

// toldNames are the names of the columns, in the order in which P13.1 has Write tell them.
var toldNames = []string{"name", "family", "given", "nick", "jid", "email", "tel", "note", "uid", "groups"}

// toldSmall is s with each capital of ASCII made small.
func toldSmall(s string) string {
	small := []byte(s)
	for i, c := range small {
		if c >= 'A' && c <= 'Z' {
			small[i] = c | 32
		}
	}
	return string(small)
}

// toldHeader is the names of the columns that row has, in its order, if row is a header, as the Words have it, with name.
func toldHeader(row []string) ([]string, bool) {
	var there []string
	for _, s := range row {
		s = toldSmall(s)
		if slices.Contains(there, s) || !slices.Contains(toldNames, s) {
			return nil, false
		}
		there = append(there, s)
	}
	return there, slices.Contains(there, "name")
}

// toldGroups is what P13.1 says of groups.
func toldGroups(field string) ([]string, api.Errno) {
	there := map[string]bool{}
	for _, part := range fold.Split(field, ';') {
		s, err := fold.Plain(part)
		if err != api.OK {
			return nil, api.ErrEscape
		}
		there[s] = s != ""
	}
	var l []string
	for s, some := range there {
		if some {
			l = append(l, s)
		}
	}
	slices.Sort(l)
	return l, api.OK
}

// toldRow is what P13.1 says of one row, word by word.
func toldRow(names, row []string) (c api.Contact, err api.Errno) {
	if len(row) != len(names) {
		return api.Contact{}, api.ErrValue
	}
	fields := map[string]string{}
	for i, s := range names {
		fields[s] = row[i]
	}
	c = api.Contact{Name: fields["name"], Family: fields["family"], Given: fields["given"], Nick: fields["nick"], Email: fields["email"], Tel: fields["tel"], Note: fields["note"], Uid: fields["uid"]}
	if s := fields["jid"]; s != "" {
		if c.Jid, err = jid.Bare(s); err != api.OK {
			return api.Contact{}, err
		}
	}
	if s := fields["groups"]; s != "" {
		if c.Groups, err = toldGroups(s); err != api.OK {
			return api.Contact{}, err
		}
	}
	if !contact.Right(c) {
		return api.Contact{}, api.ErrValue
	}
	return c, api.OK
}

// toldRead is what P13.1 says of Read, word by word.
func toldRead(rows [][]string) ([]api.Contact, int, api.Errno) {
	if len(rows) == 0 {
		return nil, 0, api.OK
	}
	names, ok := toldHeader(rows[0])
	if !ok {
		return nil, 0, api.ErrHeader
	}
	if len(rows) > 61 {
		return nil, 0, api.ErrBig
	}
	var l []api.Contact
	for at := 1; at < len(rows); at++ {
		c, err := toldRow(names, rows[at])
		if err != api.OK {
			return nil, at, err
		}
		l = append(l, c)
	}
	return l, 0, api.OK
}

// toldWrite is what P13.1 says of Write, word by word.
func toldWrite(l []api.Contact) ([][]string, api.Errno) {
	rows := [][]string{slices.Clone(toldNames)}
	for _, c := range l {
		if len(l) > 60 || !contact.Right(c) || len(c.Other) != 0 {
			return nil, api.ErrValue
		}
		groups := ""
		for i, s := range c.Groups {
			if i > 0 {
				groups += ";"
			}
			groups += fold.Value(s)
		}
		rows = append(rows, []string{c.Name, c.Family, c.Given, c.Nick, c.Jid, c.Email, c.Tel, c.Note, c.Uid, groups})
	}
	return rows, api.OK
}

// same tells whether a and b are the same; no list and an empty one are.
func same(a, b api.Contact) bool {
	return a.Name == b.Name && a.Family == b.Family && a.Given == b.Given && a.Nick == b.Nick &&
		a.Jid == b.Jid && a.Email == b.Email && a.Tel == b.Tel && a.Note == b.Note && a.Uid == b.Uid &&
		slices.Equal(a.Groups, b.Groups) && len(a.Other) == 0 && len(b.Other) == 0
}

// sameRows tells whether a and b are the same rows; no list and an empty one are.
func sameRows(a, b [][]string) bool { return slices.EqualFunc(a, b, slices.Equal[[]string]) }

// readIs holds Read of rows against what it should answer.
func readIs(t *testing.T, rows [][]string, want []api.Contact, at int, err api.Errno) {
	t.Helper()
	if l, n, e := Read(rows); !slices.EqualFunc(l, want, same) || n != at || e != err {
		t.Fatalf("P13.1: Read(%.800q): %.800q, %d, %d; want %.800q, %d, %d", rows, l, n, e, want, at, err)
	}
}

// writeIs holds Write of l against what it should answer.
func writeIs(t *testing.T, l []api.Contact, want [][]string, err api.Errno) {
	t.Helper()
	if rows, e := Write(l); !sameRows(rows, want) || e != err {
		t.Fatalf("P13.1: Write(%.800q): %.800q, %d; want %.800q, %d", l, rows, e, want, err)
	}
}

// held holds Read of rows against the words of P13.1; what is read is written, and held too.
func held(t *testing.T, rows [][]string) api.Errno {
	t.Helper()
	l, at, err := toldRead(rows)
	readIs(t, rows, l, at, err)
	if err == api.OK && !heldWrite(t, l) {
		t.Fatalf("P13.1: Read(%.800q) is not written: %.800q", rows, l)
	}
	return err
}

// heldWrite holds Write of l against the words of P13.1, and that what is written is read as it was.
func heldWrite(t *testing.T, l []api.Contact) bool {
	t.Helper()
	rows, err := toldWrite(l)
	writeIs(t, l, rows, err)
	if err != api.OK {
		return false
	}
	readIs(t, rows, l, 0, api.OK)
	return true
}

// rowsOf are all rows of up to most of the things.
func rowsOf[T any](most int, things ...T) [][]T {
	all, last := [][]T{nil}, [][]T{nil}
	for range most {
		var longer [][]T
		for _, row := range last {
			for _, thing := range things {
				longer = append(longer, append(slices.Clone(row), thing))
			}
		}
		all, last = append(all, longer...), longer
	}
	return all
}

// rows are rows, each told as its fields with "|" between.
func rows(l ...string) [][]string {
	var all [][]string
	for _, s := range l {
		all = append(all, strings.Split(s, "|"))
	}
	return all
}

// All rows of up to four names as the first one: ahead of nothing, of a row that has as many fields, and of rows that have not.
func TestRowsOfNames(t *testing.T) {
	headers := 0
	for _, header := range rowsOf(4, "name", "NaMe", "jid", "Groups", "NICK", "nic\u212a", "group\u017f", "", " name", "name ", "fn", "nam") {
		fields := slices.Repeat([]string{"a"}, len(header))
		if held(t, [][]string{header}) == api.OK {
			headers++
		}
		held(t, [][]string{header, fields})
		held(t, [][]string{header, fields, append(fields, "a")})
		held(t, [][]string{header, nil})
	}
	// One name of four columns in two capitals, and of two in one; without name none.
	if want := 2 + 2*2*3 + 2*6*3 + 2*24*1; headers != want {
		t.Errorf("P13.1: %d headers of up to four names; want %d", headers, want)
	}
}

// All columns and some, in orders by chance and in capitals by chance, some with one that is wrong.
func TestHeadersByChance(t *testing.T) {
	chance := rand.New(rand.NewSource(1))
	found := map[api.Errno]int{}
	for range 20_000 {
		header := chanceHeader(chance)
		if len(header) > 0 && chance.Intn(3) == 0 {
			header[chance.Intn(len(header))] = by(chance, "", "name", "x", "uid", "JID", " ", "na\x00e", "\xff", "nick ", "\tuid", "groups;", "NAMES", "group", "Name", "familygiven")
		}
		fields := make([]string, len(header))
		for i := range fields {
			fields[i] = by(chance, "", "a", "b")
		}
		found[held(t, [][]string{header})]++
		held(t, [][]string{header, fields, fields[:chance.Intn(len(fields)+1)]})
	}
	if found[api.OK] < 5_000 || found[api.ErrHeader] < 5_000 {
		t.Errorf("P13.1: the headers by chance: %v", found)
	}
}

// chanceHeader is a header by chance: some of the columns, in any order and any capitals, now and then without name.
func chanceHeader(chance *rand.Rand) []string {
	header := slices.Clone(toldNames)
	chance.Shuffle(len(header), func(i, j int) { header[i], header[j] = header[j], header[i] })
	header = header[:chance.Intn(len(header)+1)]
	if len(header) > 0 && !slices.Contains(header, "name") && chance.Intn(8) > 0 {
		header[chance.Intn(len(header))] = "name"
	}
	for i := range header {
		header[i] = inCapitals(chance, header[i])
	}
	return header
}

// inCapitals is s with capitals by chance.
func inCapitals(chance *rand.Rand, s string) string {
	return by(chance, s, strings.ToUpper(s), strings.ToUpper(s[:1])+s[1:], s[:len(s)-1]+strings.ToUpper(s[len(s)-1:]))
}

// All rows of up to three rows behind headers of some orders: right ones, and wrong ones of each kind.
func TestRowsOfRows(t *testing.T) {
	found := map[api.Errno]int{}
	for _, header := range [][]string{{"name", "jid", "groups"}, {"GROUPS", "Jid", "nAME"}, {"jid", "name", "groups"}, {"groups", "name", "jid"}} {
		var pieces [][]string
		for _, s := range []string{"a||", "b|A@B|d;c;;d", "a|x/y|", "a| @b|", "a|\xff|", "a|\u05d01|", `a||\x`, `|@|\`, "||", `||\`, "a||\n", "a||1;2;3;4;5;6;7;8;9", "a\t|b|"} {
			fields := strings.Split(s, "|")
			row := make([]string, 3)
			for i, name := range []string{"name", "jid", "groups"} {
				row[slices.IndexFunc(header, func(s string) bool { return strings.EqualFold(s, name) })] = fields[i]
			}
			pieces = append(pieces, row)
		}
		pieces = append(pieces, nil, []string{"a", "b"}, []string{"a", "b", "c", "d"}, []string{`\`, `\`, `\`, `\`})
		for _, l := range rowsOf(3, pieces...) {
			found[held(t, append([][]string{header}, l...))]++
		}
	}
	for _, err := range []api.Errno{api.OK, api.ErrValue, api.ErrJid, api.ErrChar, api.ErrUtf, api.ErrBidi, api.ErrEscape} {
		if found[err] < 50 {
			t.Errorf("P13.1: the errors of rows of rows: %v", found)
		}
	}
}

// All groups of some pieces, and all jids.
func TestFieldsOfPieces(t *testing.T) {
	right := [2]int{}
	for _, row := range rowsOf(5, "a", "B", ";", ",", "\\", "n", "é") {
		s := strings.Join(row, "")
		if held(t, rows("name|groups", "a|"+s)) == api.OK {
			right[0]++
		}
		held(t, [][]string{{"groups", "name"}, {s + ";" + s, "a"}, {"", "b"}, {"b;" + s + ";a", s}})
	}
	for _, row := range rowsOf(5, "a", "B", "@", "/", ".", ";") {
		s := strings.Join(row, "")
		if held(t, rows("name|jid", "a|"+s)) == api.OK {
			right[1]++
		}
		held(t, [][]string{{"uid", "jid", "name", "groups"}, {s, s, s, s}})
	}
	if right[0] < 3_000 || right[1] < 300 {
		t.Errorf("P13.1: %v groups and jids of pieces are right", right)
	}
}

// oddTexts are texts near what may be, and what may not; some are no texts.
func oddTexts() []string {
	l := []string{"", "a", "é", "a b", " ", ",", ";", "\\", "\\n", "\\x", "n", ",;\\", "a,b;c\\d", `\,`, `\;`, `\\`, `\\;`, `a\;b;c`, "\"", "\"a\"", "|", "\t", "\n", "\r", "\r\n", "a\nb", "a\tb", "\nb", "\x00", "\x1f", "\x0b", "\x7f", "\xff", "\xc3", "é\xa9", "\xed\xa0\x80", "\ufffd", "\ufffe", "\uffff", "\ufeff", "😀", "\u2028", "name", "A@B", "a@b/c", "@", "a@b."}
	for _, sign := range []string{"a", "é", "日", "😀", ",", "\\", ";", "\n", "a;"} {
		for _, n := range []int{4, 8, 9, 50, 51, 64, 65, 99, 100, 101, 200, 499, 500, 501} {
			l = append(l, strings.Repeat(sign, n))
		}
	}
	for _, sign := range []string{"\n", "\r", "\xff", "é", "\t", "\uffff"} {
		l = append(l, sign+strings.Repeat("a", 99), strings.Repeat("é", 99)+sign, strings.Repeat("a\n", 200)+sign)
	}
	return append(l, "1;2;3;4;5;6;7;8", "8;7;6;5;4;3;2;1;8;1", "1;2;3;4;5;6;7;8;9", `1;2;3;4;5;6;7;8;9\`)
}

// Each of the texts in each column, alone beside name and with all else, in two orders; and in two columns at once.
func TestEachText(t *testing.T) {
	full := []string{"a", "f", "g", "k", "x@y", "e", "t", "n\n", "u", "b;c"}
	found := map[api.Errno]int{}
	for _, s := range oddTexts() {
		for i, name := range toldNames {
			if i > 0 {
				found[held(t, [][]string{{"name", name}, {"a", s}})]++
				held(t, [][]string{{name, "name"}, {s, "a"}, {"", "b"}})
			}
			row := slices.Clone(full)
			row[i] = s
			found[held(t, [][]string{toldNames, row, full})]++
			row[(i+3)%10] = s
			held(t, [][]string{toldNames, full, row})
			header := slices.Clone(toldNames)
			slices.Reverse(header)
			slices.Reverse(row)
			held(t, [][]string{header, row})
		}
	}
	for _, err := range []api.Errno{api.OK, api.ErrValue, api.ErrEscape, api.ErrJid} {
		if found[err] < 20 {
			t.Errorf("P13.1: the errors of odd texts: %v", found)
		}
	}
}

// fields are what of a contact is one text, each as it may be set.
func fields() []func(c *api.Contact, s string) {
	return []func(c *api.Contact, s string){
		func(c *api.Contact, s string) { c.Name = s },
		func(c *api.Contact, s string) { c.Family = s },
		func(c *api.Contact, s string) { c.Given = s },
		func(c *api.Contact, s string) { c.Nick = s },
		func(c *api.Contact, s string) { c.Jid = s },
		func(c *api.Contact, s string) { c.Email = s },
		func(c *api.Contact, s string) { c.Tel = s },
		func(c *api.Contact, s string) { c.Note = s },
		func(c *api.Contact, s string) { c.Uid = s },
		func(c *api.Contact, s string) { c.Groups = []string{s} },
		func(c *api.Contact, s string) { c.Groups = []string{"A", s} },
		func(c *api.Contact, s string) { c.Groups = []string{s, "é", "日"} },
	}
}

// Each of the texts in each field, alone and with all else, of one contact and of one between two.
func TestEachTextWritten(t *testing.T) {
	right := 0
	for _, s := range oddTexts() {
		for _, set := range fields() {
			for _, c := range []api.Contact{{Name: "a"}, full()} {
				set(&c, s)
				if heldWrite(t, []api.Contact{c}) {
					right++
				}
				heldWrite(t, []api.Contact{full(), c, {Name: "z"}})
			}
		}
	}
	if right < 500 {
		t.Errorf("P13.1: only %d contacts of odd texts are written", right)
	}
}

// Each byte alone, and each sign up to 0x600, and some beyond: in each column, behind a "\", and in a name of a column.
func TestEachSign(t *testing.T) {
	var all []string
	for c := range 256 {
		all = append(all, string([]byte{byte(c)}))
	}
	for c := rune(128); c < 0x11_0000; c += 1 + c/0x600*16 {
		all = append(all, string(c))
	}
	all = append(all, "\u212a", "\u017f") // these fold to k and s
	header := slices.Clone(toldNames)
	for _, s := range all {
		for i, name := range toldNames {
			row := []string{"a", "", "", "", "", "", "", "", "", ""}
			row[i] = s
			held(t, [][]string{toldNames, row})
			row[i] = `\` + s + "b"
			held(t, [][]string{toldNames, row})
			for at := range len(name) {
				header[i] = name[:at] + s + name[at+1:]
				held(t, [][]string{header})
			}
			header[i] = name + s
			held(t, [][]string{header})
			header[i] = s + name
			held(t, [][]string{header})
			header[i] = s
			held(t, [][]string{header})
			header[i] = name
		}
		for _, set := range fields() {
			c := api.Contact{Name: "a"}
			set(&c, s)
			heldWrite(t, []api.Contact{c})
		}
	}
}

// by tells one of l.
func by[T any](chance *rand.Rand, l ...T) T { return l[chance.Intn(len(l))] }

// chanceText is a text by chance that may stand in a line, of at most most characters: often as many.
func chanceText(chance *rand.Rand, most int) string {
	n := by(chance, 0, 0, 1, chance.Intn(most+1), most)
	var b strings.Builder
	for range n {
		b.WriteString(by(chance, "a", "b", " ", ",", ";", "\\", "n", "N", "é", "日", "😀", "\u00ad", "\"", "|"))
	}
	return b.String()
}

// chanceContact is a contact by chance that is Right.
func chanceContact(chance *rand.Rand) api.Contact {
	text := func() string { return chanceText(chance, 100) }
	c := api.Contact{Name: "x" + chanceText(chance, 99), Family: text(), Given: text(), Nick: text(), Email: text(), Tel: text(), Uid: text()}
	c.Jid = by(chance, "", "a@b", "b", "a;,\\b@c", strings.Repeat("a", 64)+"@"+strings.Repeat("b", 100))
	c.Note = strings.ReplaceAll(chanceText(chance, 500), "N", by(chance, "\n", "\t"))
	for range by(chance, 0, 1, chance.Intn(9), 8) {
		c.Groups = append(c.Groups, by(chance, "g", ";", "\\")+chanceText(chance, 99))
	}
	slices.Sort(c.Groups)
	c.Groups = slices.Compact(c.Groups)
	return c
}

// What follows: contacts by chance, so many as may be and fewer, are written, and read as they were; also in another order of the columns, and with one field turned.
func TestContactsByChance(t *testing.T) {
	chance := rand.New(rand.NewSource(13))
	found := map[api.Errno]int{}
	for range 300 {
		var l []api.Contact
		for range by(chance, 0, 1, 2, chance.Intn(60), 60) {
			l = append(l, chanceContact(chance))
		}
		if !heldWrite(t, l) {
			t.Fatalf("P13.1: not written: %.800q", l)
		}
		written, err := Write(l)
		if err != api.OK {
			t.Fatalf("P13.1: Write(%.800q): %d", l, err)
		}
		i, j := by(chance, 9, chance.Intn(10)), chance.Intn(10)
		for _, row := range written {
			row[i], row[j] = row[j], row[i]
		}
		readIs(t, written, l, 0, api.OK)
		at := chance.Intn(len(written))
		written[at][j] = by(chance, oddTexts()...)
		found[held(t, written)]++
		written[at] = written[at][:chance.Intn(11)]
		found[held(t, written)]++
		if len(l) > 0 {
			fields()[chance.Intn(12)](&l[chance.Intn(len(l))], by(chance, oddTexts()...))
			heldWrite(t, l)
		}
	}
	for _, err := range []api.Errno{api.OK, api.ErrHeader, api.ErrValue, api.ErrEscape} {
		if found[err] < 5 {
			t.Errorf("P13.1: the errors of rows by chance: %v", found)
		}
	}
}

// R1: whatever is given, there is an answer; R2: the same one each time.
func TestAlwaysAlike(t *testing.T) {
	many := make([]string, 100_000)
	for _, l := range [][][]string{nil, {}, {nil}, {{}}, {many}, {slices.Repeat([]string{"name"}, 100_000)}, make([][]string, 100_000), {{"name"}, many}, {{"name"}, nil}, {{"name", "groups"}, {"a", strings.Repeat("a;", 1_000_000)}}, {{"name", "groups"}, {"a", strings.Repeat(`\;b;`, 100_000)}}, {{strings.Repeat("name", 1_000_000)}}, {{"name", "jid"}, {"a", strings.Repeat("\xff", 1_000_000)}}} {
		c, at, err := Read(l)
		held(t, l)
		for range 3 {
			if d, n, e := Read(l); !slices.EqualFunc(c, d, same) || n != at || e != err {
				t.Fatalf("R2: Read(%.100q) again: %.100q, %d, %d", l, d, n, e)
			}
		}
	}
	for _, l := range [][]api.Contact{nil, {}, {{}}, make([]api.Contact, 100_000), slices.Repeat([]api.Contact{full()}, 100_000), {{Name: "a", Groups: many}}, {{Name: "a", Other: make([]api.Prop, 100_000)}}, {{Name: strings.Repeat("a", 1_000_000)}}} {
		written, err := Write(l)
		heldWrite(t, l)
		for range 3 {
			if m, e := Write(l); !sameRows(m, written) || e != err {
				t.Fatalf("R2: Write(%.100q) again: %.100q, %d", l, m, e)
			}
		}
	}
}
