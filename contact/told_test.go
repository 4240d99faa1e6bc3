package contact

import (
	"math/rand"
	"slices"
	"strings"
	"testing"
	"unicode/utf8"

	"cardex/api"
	"cardex/fold"
	"cardex/jid"
	"cardex/vcard"
)

// toldNames are the names of the known properties, in the order in which P12.1 has Props tell them.
var toldNames = []string{"FN", "N", "NICKNAME", "IMPP", "EMAIL", "TEL", "CATEGORIES", "NOTE", "UID"}

// toldKnown tells whether p is a known property, if it is the first one of its kind.
func toldKnown(p api.Prop) bool {
	bare := len(p.Group) == 0 && len(p.Params) == 0 && slices.Contains(toldNames, p.Name)
	return bare && (p.Name != "IMPP" || len(p.Value) > 4 && p.Value[:5] == "xmpp:")
}

// toldPlains is fold.Plain of each of l.
func toldPlains(l []string) ([]string, api.Errno) {
	plains := make([]string, len(l))
	for i := range l {
		s, err := fold.Plain(l[i])
		if err != api.OK {
			return nil, api.ErrEscape
		}
		plains[i] = s
	}
	return plains, api.OK
}

// toldN is what the Words say of an N.
func toldN(value string) (family, given string, err api.Errno) {
	l, err := toldPlains(fold.Split(value, ';'))
	switch {
	case err != api.OK:
		return "", "", err
	case len(l) == 5 && len(l[2])+len(l[3])+len(l[4]) == 0:
		return l[0], l[1], api.OK
	}
	return "", "", api.ErrValue
}

// toldGroups is what the Words, and P12.2, say of a CATEGORIES.
func toldGroups(value string) ([]string, api.Errno) {
	l, err := toldPlains(fold.Split(value, ','))
	var groups []string
	for _, s := range l {
		at := 0
		for at < len(groups) && groups[at] < s {
			at++
		}
		if len(s) > 0 && (at == len(groups) || groups[at] > s) {
			groups = slices.Insert(groups, at, s)
		}
	}
	return groups, err
}

// toldJid is what the Words say of the Value of an IMPP.
func toldJid(value string) (string, api.Errno) {
	s, err := fold.Plain(value[5:])
	if err != api.OK {
		return "", api.ErrEscape
	}
	return jid.Bare(s)
}

// toldPut puts the known property p into c, as the Words have it.
func toldPut(p api.Prop, c *api.Contact) (err api.Errno) {
	switch p.Name {
	case "FN":
		c.Name, err = fold.Plain(p.Value)
	case "N":
		c.Family, c.Given, err = toldN(p.Value)
	case "NICKNAME":
		c.Nick, err = fold.Plain(p.Value)
	case "IMPP":
		c.Jid, err = toldJid(p.Value)
	case "EMAIL":
		c.Email, err = fold.Plain(p.Value)
	case "TEL":
		c.Tel, err = fold.Plain(p.Value)
	case "CATEGORIES":
		c.Groups, err = toldGroups(p.Value)
	case "NOTE":
		c.Note, err = fold.Plain(p.Value)
	case "UID":
		c.Uid, err = fold.Plain(p.Value)
	}
	return err
}

// toldOf is what P12.1 says of Of, word by word.
func toldOf(l []api.Prop) (api.Contact, api.Errno) {
	var c api.Contact
	var there []string
	for _, p := range l {
		if !toldKnown(p) || slices.Contains(there, p.Name) {
			c.Other = append(c.Other, p)
			continue
		}
		there = append(there, p.Name)
		if err := toldPut(p, &c); err != api.OK {
			return api.Contact{}, err
		}
	}
	if !toldRight(c) {
		return api.Contact{}, api.ErrValue
	}
	return c, api.OK
}

// toldText tells whether s is text without the signs, of at most most characters.
func toldText(s string, most int, signs string) bool {
	n := 0
	for _, c := range s {
		if c < 32 && (c != 9 && c != 10 && c != 13 || strings.ContainsRune(signs, c)) || c == 65_534 || c == 65_535 {
			return false
		}
		n++
	}
	return utf8.ValidString(s) && n <= most
}

// toldLine tells whether s is utf.Line of MaxString.
func toldLine(s string) bool { return toldText(s, 100, "\t\n\r") }

// toldRight is what P12.1 says of Right, word by word.
func toldRight(c api.Contact) bool {
	if c.Name == "" || !toldLine(c.Name) || !toldLine(c.Family) || !toldLine(c.Given) || !toldLine(c.Nick) {
		return false
	}
	if !toldLine(c.Email) || !toldLine(c.Tel) || !toldLine(c.Uid) || !toldText(c.Note, 500, "\r") {
		return false
	}
	if bare, err := jid.Bare(c.Jid); c.Jid != "" && (err != api.OK || bare != c.Jid) {
		return false
	}
	for i, s := range c.Groups {
		if i == 8 || s == "" || !toldLine(s) || i > 0 && s <= c.Groups[i-1] {
			return false
		}
	}
	_, err := vcard.Write([][]api.Prop{c.Other})
	return len(c.Other) <= 40 && err == api.OK
}

// toldProps is what P12.1 says of Props, word by word.
func toldProps(c api.Contact) ([]api.Prop, api.Errno) {
	if !toldRight(c) {
		return nil, api.ErrValue
	}
	var l []api.Prop
	some := func(name, start, s string) {
		if s != "" {
			l = append(l, api.Prop{Name: name, Value: start + fold.Value(s)})
		}
	}
	some("FN", "", c.Name)
	if c.Family+c.Given != "" {
		l = append(l, api.Prop{Name: "N", Value: fold.Value(c.Family) + ";" + fold.Value(c.Given) + ";;;"})
	}
	some("NICKNAME", "", c.Nick)
	some("IMPP", "xmpp:", c.Jid)
	some("EMAIL", "", c.Email)
	some("TEL", "", c.Tel)
	categories := ""
	for _, s := range c.Groups {
		categories += "," + fold.Value(s)
	}
	if categories != "" {
		l = append(l, api.Prop{Name: "CATEGORIES", Value: categories[1:]})
	}
	some("NOTE", "", c.Note)
	some("UID", "", c.Uid)
	return append(l, c.Other...), api.OK
}

// sameProps tells whether a and b are the same; no list and an empty one are.
func sameProps(a, b []api.Prop) bool {
	return slices.EqualFunc(a, b, func(p, q api.Prop) bool {
		return p.Group == q.Group && p.Name == q.Name && p.Value == q.Value && slices.Equal(p.Params, q.Params)
	})
}

// same tells whether a and b are the same; no list and an empty one are.
func same(a, b api.Contact) bool {
	return a.Name == b.Name && a.Family == b.Family && a.Given == b.Given && a.Nick == b.Nick &&
		a.Jid == b.Jid && a.Email == b.Email && a.Tel == b.Tel && a.Note == b.Note && a.Uid == b.Uid &&
		slices.Equal(a.Groups, b.Groups) && sameProps(a.Other, b.Other)
}

// ofIs holds Of of l against what it should answer.
func ofIs(t *testing.T, l []api.Prop, want api.Contact, err api.Errno) {
	t.Helper()
	if c, e := Of(l); !same(c, want) || e != err {
		t.Fatalf("P12.1: Of(%.800q): %.800q, %d; want %.800q, %d", l, c, e, want, err)
	}
}

// propsIs holds Props of c against what it should answer.
func propsIs(t *testing.T, c api.Contact, want []api.Prop, err api.Errno) {
	t.Helper()
	if l, e := Props(c); !sameProps(l, want) || e != err {
		t.Fatalf("P12.1: Props(%.800q): %.800q, %d; want %.800q, %d", c, l, e, want, err)
	}
}

// held holds Of of l against the words of P12.1; what it is of is Right, and held too.
func held(t *testing.T, l []api.Prop) api.Errno {
	t.Helper()
	c, err := toldOf(l)
	ofIs(t, l, c, err)
	if err == api.OK && !heldContact(t, c) {
		t.Fatalf("P12.1: Of(%.800q) is not Right: %.800q", l, c)
	}
	return err
}

// heldContact holds Right and Props of c against the words of P12.1, and that its properties are of what it was.
func heldContact(t *testing.T, c api.Contact) bool {
	t.Helper()
	right := toldRight(c)
	if Right(c) != right {
		t.Fatalf("P12.1: Right(%.800q): %v", c, !right)
	}
	l, err := toldProps(c)
	propsIs(t, c, l, err)
	if right && !slices.ContainsFunc(c.Other, toldKnown) {
		ofIs(t, l, c, api.OK)
	}
	return right
}

// rowsOf are all rows of up to most of the things.
func rowsOf[T any](most int, things ...T) [][]T {
	all, last := [][]T{nil}, [][]T{nil}
	for range most {
		var longer [][]T
		for _, row := range last {
			for _, thing := range things {
				longer = append(longer, append(slices.Clone(row), thing))
			}
		}
		all, last = append(all, longer...), longer
	}
	return all
}

// prop is a property of no Group; its parameters are each a name with its Value behind it.
func prop(name, value string, params ...string) api.Prop {
	p := api.Prop{Name: name, Value: value}
	for pair := range slices.Chunk(params, 2) {
		p.Params = append(p.Params, api.Attr{Name: pair[0], Value: pair[1]})
	}
	return p
}

// in is p with the Group g.
func in(g string, p api.Prop) api.Prop {
	p.Group = g
	return p
}

// All rows of up to four properties, right and wrong ones, first ones and further ones.
func TestRowsOfProperties(t *testing.T) {
	errs := map[api.Errno]int{}
	for _, l := range rowsOf(4,
		prop("FN", "a"), prop("FN", "\\x"), prop("FN", ""), in("g", prop("FN", "b")), prop("N", "f;g;;;"), prop("N", "f;g"), prop("N", "\\x"),
		prop("IMPP", "xmpp:A@b"), prop("IMPP", "xmpp:"), prop("IMPP", "sip:\\"), prop("IMPP", "xmpp: @b"), prop("CATEGORIES", "b,a,,b"),
		prop("CATEGORIES", "\\"), prop("NOTE", "\\n", "A", "b"), prop("NOTE", "\\N"), prop("uid", "u"), prop("X", "\\x")) {
		errs[held(t, l)]++
	}
	for _, err := range []api.Errno{api.OK, api.ErrValue, api.ErrEscape, api.ErrJid, api.ErrChar} {
		if errs[err] < 1_000 {
			t.Errorf("P12.1: the errors of rows of properties: %v", errs)
		}
	}
}

// Each two kinds, and each three Values, one behind the other.
func TestRowsOfKinds(t *testing.T) {
	var all []api.Prop
	for _, name := range toldNames {
		for _, value := range []string{"", "a", "xmpp:a@b", "\\,", "\\", "f;g;;;", "\n"} {
			all = append(all, prop(name, value))
		}
	}
	for _, l := range rowsOf(2, all...) {
		held(t, l)
		held(t, append(slices.Clone(l), prop("FN", "n")))
		held(t, append([]api.Prop{prop("FN", "n")}, l...))
	}
}

// All Values of some pieces, of each kind; of those that have more than one part, longer ones too.
func TestValuesOfPieces(t *testing.T) {
	right := map[string]int{}
	hold := func(name, value string) {
		if held(t, []api.Prop{prop("FN", "n"), prop(name, value)}) == api.OK {
			right[name]++
		}
	}
	for _, row := range rowsOf(4, "a", "B", "@", ",", ";", "\\", "n") {
		value := strings.Join(row, "")
		for _, name := range toldNames {
			hold(name, value)
		}
		hold("IMPP", "xmpp:"+value)
		held(t, []api.Prop{prop("FN", value)})
	}
	for _, row := range rowsOf(7, "a", ";", "\\", ";;") {
		hold("N", strings.Join(row, ""))
	}
	for _, row := range rowsOf(6, "a", ",", "b", "\\,", "é") {
		hold("CATEGORIES", strings.Join(row, ""))
	}
	for _, row := range rowsOf(5, "a", "B", "@", "\\;", "/", ".") {
		hold("IMPP", "xmpp:"+strings.Join(row, ""))
	}
	for _, name := range toldNames {
		if right[name] < 300 {
			t.Errorf("P12.1: %d Values of %s are right", right[name], name)
		}
	}
}

// oddTexts are texts near what may be, and what may not; some are no texts.
func oddTexts() []string {
	l := []string{"", "a", "é", "a b", ",", ";", "\\", "\\n", "n", ",;\\", "a,b;c\\d", "\t", "\n", "\r", "\r\n", "a\nb", "a\tb", "\nb", "\x00", "\x1f", "\x0b", "\x7f", "\xff", "\xc3", "é\xa9", "\xed\xa0\x80", "\ufffd", "\ufffe", "\uffff", "\ufeff", "😀", "\u2028"}
	for _, sign := range []string{"a", "é", "日", "😀", ",", "\\", "\n"} {
		for _, n := range []int{19, 20, 24, 25, 33, 34, 50, 51, 64, 65, 99, 100, 101, 166, 167, 200, 250, 499, 500, 501} {
			l = append(l, strings.Repeat(sign, n))
		}
	}
	for _, sign := range []string{"\n", "\r", "\xff", "é", "\t", "\uffff"} {
		l = append(l, sign+strings.Repeat("a", 99), strings.Repeat("é", 99)+sign, strings.Repeat("a\n", 200)+sign)
	}
	return l
}

// fields are what of a contact is one text, each as it may be set.
func fields() []func(c *api.Contact, s string) {
	return []func(c *api.Contact, s string){
		func(c *api.Contact, s string) { c.Name = s },
		func(c *api.Contact, s string) { c.Family = s },
		func(c *api.Contact, s string) { c.Given = s },
		func(c *api.Contact, s string) { c.Nick = s },
		func(c *api.Contact, s string) { c.Jid = s },
		func(c *api.Contact, s string) { c.Email = s },
		func(c *api.Contact, s string) { c.Tel = s },
		func(c *api.Contact, s string) { c.Note = s },
		func(c *api.Contact, s string) { c.Uid = s },
		func(c *api.Contact, s string) { c.Groups = []string{s} },
		func(c *api.Contact, s string) { c.Groups = []string{"A", s} },
		func(c *api.Contact, s string) { c.Groups = []string{s, "é", "日"} },
		func(c *api.Contact, s string) { c.Other = []api.Prop{prop("X", s)} },
		func(c *api.Contact, s string) { c.Other = []api.Prop{prop("NOTE", s), prop("FN", s)} },
		func(c *api.Contact, s string) { c.Other = []api.Prop{prop("X", "", "A", s)} },
	}
}

// Each field of each of the texts, alone and with all else; and two of them at once.
func TestEachText(t *testing.T) {
	right := 0
	for _, s := range oddTexts() {
		for i, set := range fields() {
			for _, c := range []api.Contact{{Name: "a"}, full()} {
				set(&c, s)
				if heldContact(t, c) {
					right++
				}
				fields()[(i+7)%15](&c, s)
				heldContact(t, c)
			}
		}
		for _, name := range toldNames {
			for _, value := range []string{s, fold.Value(s), "xmpp:" + s, "xmpp:" + fold.Value(s) + "@b", fold.Value(s) + ";;;;", ";" + s + ";;;"} {
				held(t, []api.Prop{prop("FN", "n"), prop(name, value)})
				held(t, []api.Prop{prop(name, value), prop("FN", "n"), prop(name, s)})
			}
		}
	}
	if right < 500 {
		t.Errorf("P12.1: only %d contacts of odd texts are Right", right)
	}
}

// Each byte alone, and each sign up to 0x600, and of some beyond, in each field and in each Value.
func TestEachSign(t *testing.T) {
	var all []string
	for c := range 256 {
		all = append(all, string([]byte{byte(c)}), "\\"+string([]byte{byte(c)}))
	}
	for c := rune(128); c < 0x11_0000; c += 1 + c/0x600*16 {
		all = append(all, string(c))
	}
	for _, s := range all {
		for _, set := range fields() {
			c := api.Contact{Name: "a"}
			set(&c, s)
			heldContact(t, c)
		}
		for _, name := range toldNames {
			held(t, []api.Prop{prop(name, s), prop("FN", "n")})
			held(t, []api.Prop{prop("FN", "n"), prop(name, "xmpp:a"+s)})
		}
		held(t, []api.Prop{prop("FN", "n"), prop("N", "a"+s+";b;;;")})
		held(t, []api.Prop{prop("FN", "n"), prop("N", "a;b"+s+";;;")})
		held(t, []api.Prop{prop("FN", "n"), prop("CATEGORIES", "b,a"+s+",a")})
	}
}

// by tells one of l.
func by[T any](chance *rand.Rand, l ...T) T { return l[chance.Intn(len(l))] }

// chanceText is a text by chance that may stand in a line, of at most most characters: often as many.
func chanceText(chance *rand.Rand, most int) string {
	n := by(chance, 0, 0, 1, chance.Intn(most+1), most)
	var b strings.Builder
	for range n {
		b.WriteString(by(chance, "a", "b", " ", ",", ";", "\\", "n", "N", "é", "日", "😀", "\u00ad"))
	}
	return b.String()
}

// chanceContact is a contact by chance: Right, but for what is too great to be written.
func chanceContact(chance *rand.Rand) api.Contact {
	text := func() string { return chanceText(chance, 100) }
	c := api.Contact{Name: "x" + chanceText(chance, 99), Family: text(), Given: text(), Nick: text(), Email: text(), Tel: text(), Uid: text()}
	c.Jid = by(chance, "", "a@b", "b", "a;,\\b@c", strings.Repeat("a", 64)+"@"+strings.Repeat("b", 100))
	c.Note = strings.ReplaceAll(chanceText(chance, 500), "N", by(chance, "\n", "\t"))
	for range by(chance, 0, 1, chance.Intn(9), 8) {
		c.Groups = append(c.Groups, "g"+chanceText(chance, 99))
	}
	slices.Sort(c.Groups)
	c.Groups = slices.Compact(c.Groups)
	for range by(chance, 0, 1, chance.Intn(41), 40) {
		p := prop(by(chance, "X", "FN", "N", "IMPP", "ADR", "END"), chanceText(chance, 60))
		if p.Group = by(chance, "", "g"); p.Group == "" && chance.Intn(2) == 0 {
			p.Params = []api.Attr{{Name: "A", Value: chanceText(chance, 10)}}
		}
		c.Other = append(c.Other, p)
	}
	return c
}

// Contacts by chance: their properties are of them what they were, also in another order, with more behind.
func TestContactsByChance(t *testing.T) {
	chance := rand.New(rand.NewSource(12))
	right, whole := 0, 0
	for range 2_000 {
		c := chanceContact(chance)
		if !heldContact(t, c) {
			continue
		}
		right++
		l, err := Props(c)
		if err != api.OK {
			t.Fatalf("P12.1: Props(%.800q): %d", c, err)
		}
		if !slices.ContainsFunc(c.Other, toldKnown) {
			whole++
		}
		chance.Shuffle(len(l), func(i, j int) { l[i], l[j] = l[j], l[i] })
		held(t, l)
		held(t, append(l, l...))
		held(t, l[:chance.Intn(len(l)+1)])
	}
	if right < 1_000 || whole < 400 {
		t.Errorf("P12.1: %d contacts by chance are Right, %d without known ones in Other", right, whole)
	}
}

// R1: whatever is given, there is an answer; R2: the same one each time.
func TestAlwaysAlike(t *testing.T) {
	for _, l := range [][]api.Prop{nil, {}, make([]api.Prop, 100_000), slices.Repeat([]api.Prop{prop("FN", "a")}, 100_000), {prop("FN", strings.Repeat("\xff", 100_000))}, {prop("N", strings.Repeat(";", 100_000))}, {prop("CATEGORIES", strings.Repeat("a,", 100_000))}} {
		c, err := Of(l)
		for range 3 {
			if d, e := Of(l); !same(c, d) || e != err {
				t.Fatalf("R2: Of(%.100q) again: %.100q, %d", l, d, e)
			}
		}
	}
	for _, c := range []api.Contact{{}, {Groups: make([]string, 100_000)}, {Other: make([]api.Prop, 100_000)}, {Name: strings.Repeat("a", 1_000_000)}, full()} {
		right := Right(c)
		l, err := Props(c)
		for range 20 {
			if m, e := Props(c); !sameProps(l, m) || e != err || Right(c) != right {
				t.Fatalf("R2: Props(%.100q) again: %.100q, %d", c, m, e)
			}
		}
	}
}
