package vcard

import (
	"math/rand"
	"reflect"
	"regexp"
	"slices"
	"strings"
	"testing"
	"unicode/utf8"

	"cardex/api"
	"cardex/fold"
)

// The words of chapter 11, as forms: a word, the Value of a parameter, and a line of a property by its groups.
const (
	toldWord  = `[A-Za-z0-9\-]+`
	toldValue = `(?:"([^"]*)"|([^";:,]*))`
	toldParam = `;(` + toldWord + `)=` + toldValue
)

var (
	toldProp   = regexp.MustCompile(`(?s)\A(?:(` + toldWord + `)\.)?(` + toldWord + `)((?:` + toldParam + `)*):(.*)\z`)
	toldParams = regexp.MustCompile(toldParam)
	toldUpper  = regexp.MustCompile(`\A[A-Z0-9\-]+\z`)
	toldGroup  = regexp.MustCompile(`\A(?:` + toldWord + `)?\z`)
	toldBegin  = regexp.MustCompile(`\A[Bb][Ee][Gg][Ii][Nn]:[Vv][Cc][Aa][Rr][Dd]\z`)
	toldEnd    = regexp.MustCompile(`\A[Ee][Nn][Dd]:[Vv][Cc][Aa][Rr][Dd]\z`)
)

// capitals is s with A to Z for a to z.
func capitals(s string) string {
	all := []byte(s)
	for i, c := range all {
		if 'a' <= c && c <= 'z' {
			all[i] = c - 'a' + 'A'
		}
	}
	return string(all)
}

// toldLine is the property whose line is line, by the chapter's words.
func toldLine(line string) (api.Prop, bool) {
	m := toldProp.FindStringSubmatch(line)
	if m == nil {
		return api.Prop{}, false
	}
	p := api.Prop{Group: m[1], Name: capitals(m[2]), Value: m[len(m)-1]}
	for _, a := range toldParams.FindAllStringSubmatch(m[3], -1) {
		p.Params = append(p.Params, api.Attr{Name: capitals(a[1]), Value: a[2] + a[3]})
	}
	return p, true
}

// toldCard is the card that begins with the line at of lines: its properties, and where the line behind it is; or else which line is wrong, and why.
func toldCard(lines []string, at int) ([]api.Prop, int, api.Errno) {
	if at == len(lines) {
		return nil, at, api.ErrCard
	}
	if p, ok := toldLine(lines[at]); !ok || p.Name != "VERSION" || p.Value != "4.0" {
		return nil, at + 1, api.ErrCard
	}
	card := []api.Prop{}
	for i := at + 1; i < len(lines); i++ {
		if toldEnd.MatchString(lines[i]) {
			return card, i + 1, api.OK
		}
		p, ok := toldLine(lines[i])
		switch {
		case !ok:
			return nil, i + 1, api.ErrLine
		case p.Name == "BEGIN" || p.Name == "VERSION":
			return nil, i + 1, api.ErrCard
		case len(card) == 40:
			return nil, i + 1, api.ErrBig
		}
		card = append(card, p)
	}
	return nil, len(lines), api.ErrCard
}

// toldRead is what P11.1 says of Read, word by word.
func toldRead(s string) ([][]api.Prop, int, api.Errno) {
	lines, err := fold.Unfold(s)
	if err != api.OK {
		return nil, 0, err
	}
	var cards [][]api.Prop
	for at := 0; at < len(lines); {
		if !toldBegin.MatchString(lines[at]) {
			return nil, at + 1, api.ErrCard
		}
		if len(cards) == 60 {
			return nil, at + 1, api.ErrBig
		}
		card, next, err := toldCard(lines, at+1)
		if err != api.OK {
			return nil, next, err
		}
		cards, at = append(cards, card), next
	}
	return cards, 0, api.OK
}

// toldText tells whether s is text that can stand in a line.
func toldText(s string) bool {
	for _, c := range s {
		if c < 32 && c != 9 || c == 65_534 || c == 65_535 {
			return false
		}
	}
	return utf8.ValidString(s)
}

// toldRight tells whether a card can have p, part by part.
func toldRight(p api.Prop) bool {
	for _, a := range p.Params {
		if !toldUpper.MatchString(a.Name) || !toldText(a.Value) || strings.Contains(a.Value, `"`) {
			return false
		}
	}
	if p.Name == "END" && p.Group == "" && len(p.Params) == 0 && capitals(p.Value) == "VCARD" {
		return false
	}
	return toldGroup.MatchString(p.Group) && toldUpper.MatchString(p.Name) && p.Name != "BEGIN" && p.Name != "VERSION" && toldText(p.Value)
}

// toldProperty is the line of p.
func toldProperty(p api.Prop) string {
	line := p.Name
	if p.Group != "" {
		line = p.Group + "." + line
	}
	for _, a := range p.Params {
		line += ";" + a.Name + "="
		if a.Value == "" || strings.Contains(a.Value, ";") || strings.Contains(a.Value, ":") || strings.Contains(a.Value, ",") {
			line += "\x22" + a.Value + "\x22"
		} else {
			line += a.Value
		}
	}
	return line + ":" + p.Value
}

// toldWrite is what P11.1 says of Write, word by word.
func toldWrite(l [][]api.Prop) (string, api.Errno) {
	var lines []string
	for _, card := range l {
		lines = append(lines, "BEGIN:VCARD", "VERSION:4.0")
		for _, p := range card {
			if !toldRight(p) {
				return "", api.ErrValue
			}
			lines = append(lines, toldProperty(p))
		}
		lines = append(lines, "END:VCARD")
		if len(card) > 40 {
			return "", api.ErrValue
		}
	}
	if len(l) > 60 {
		return "", api.ErrValue
	}
	s := fold.Fold(lines)
	if len(s) > 20_000 {
		return "", api.ErrBig
	}
	return s, api.OK
}

// same tells whether a and b are the same cards; no list and an empty one are.
func same(a, b [][]api.Prop) bool {
	return slices.EqualFunc(a, b, func(a, b []api.Prop) bool {
		return slices.EqualFunc(a, b, func(p, q api.Prop) bool {
			return p.Group == q.Group && p.Name == q.Name && p.Value == q.Value && slices.Equal(p.Params, q.Params)
		})
	})
}

// readIs holds Read of s against what it should answer.
func readIs(t *testing.T, s string, at int, err api.Errno, want ...[]api.Prop) {
	t.Helper()
	l, i, e := Read(s)
	if !same(l, want) || i != at || e != err || err != api.OK && l != nil {
		t.Fatalf("P11.1: Read(%.400q): %.400q, %d, %d; want %.400q, %d, %d", s, l, i, e, want, at, err)
	}
}

// held holds Read of s against the words of P11.1, and tells its answer.
func held(t *testing.T, s string) ([][]api.Prop, api.Errno) {
	t.Helper()
	l, at, err := toldRead(s)
	readIs(t, s, at, err, l...)
	return l, err
}

// heldWrite holds Write of l against the words of P11.1, and that what is written is read as it was.
func heldWrite(t *testing.T, l [][]api.Prop) api.Errno {
	t.Helper()
	want, err := toldWrite(l)
	if s, e := Write(l); s != want || e != err {
		t.Fatalf("P11.1: Write(%.400q): %.400q, %d; want %.400q, %d", l, s, e, want, err)
	}
	if err == api.OK {
		readIs(t, want, 0, api.OK, l...)
	}
	return err
}

// ofPieces are all rows of up to most of the pieces.
func ofPieces(most int, pieces ...string) [][]string {
	all, last := [][]string{nil}, [][]string{nil}
	for range most {
		var longer [][]string
		for _, row := range last {
			for _, p := range pieces {
				longer = append(longer, append(slices.Clone(row), p))
			}
		}
		all, last = append(all, longer...), longer
	}
	return all
}

// All lines of up to six signs within a card, and as its first one.
func TestSigns(t *testing.T) {
	read := 0
	for _, row := range ofPieces(6, "a", "-", ".", ";", "=", `"`, ":", ",") {
		line := strings.Join(row, "")
		if l, _ := held(t, card(line)); len(l) == 1 {
			read++
		}
		if len(row) < 5 {
			held(t, lines("BEGIN:VCARD", line, "END:VCARD"))
		}
	}
	if read < 1_000 {
		t.Errorf("P11.1: %d lines of signs are read", read)
	}
}

// All lines of up to five pieces, each with what may be of a parameter, behind the beginning of a property.
func TestPiecesOfParameters(t *testing.T) {
	for _, row := range ofPieces(5, ";b=", ";B=c", `"`, `""`, `"d;e"`, ":", ",", "é", " ", ";") {
		held(t, card("FN"+strings.Join(row, "")))
		held(t, card("g.FN"+strings.Join(row, "")+":x"))
	}
}

// All texts of up to six lines of some kinds.
func TestLines(t *testing.T) {
	errs := map[api.Errno]int{}
	for _, row := range ofPieces(6, "BEGIN:VCARD", "version:4.0", "End:vCard", "VERSION:3.0", "FN:a", " b", "?", "") {
		_, err := held(t, lines(row...))
		errs[err]++
	}
	if errs[api.OK] < 10 || errs[api.ErrLine] < 1_000 || errs[api.ErrCard] < 1_000 {
		t.Errorf("P11.1: the errors of the texts of lines: %v", errs)
	}
	for _, row := range ofPieces(4, "BEGIN:VCARD", "BEGIN;a=b:VCARD", "x.END:VCARD", "END;a=b:VCARD", "g.VERSION;x=y:4.0", "VERSION:4.0", "END:VCARD", "begin:", "FN;a=\"b:c\":d") {
		held(t, lines(row...))
		held(t, lines(append([]string{"BEGIN:VCARD", "VERSION:4.0"}, row...)...))
	}
}

// Lines where there is just room for a property or two, and for a card or two.
func TestLinesAtTheLimits(t *testing.T) {
	for _, row := range ofPieces(4, "BEGIN:VCARD", "VERSION:4.0", "END:VCARD", "FN:a", "?") {
		for n := 38; n <= 41; n++ {
			held(t, lines("BEGIN:VCARD", "VERSION:4.0")+strings.Repeat(lines("A:b"), n)+lines(row...))
		}
		for n := 58; n <= 61; n++ {
			held(t, strings.Repeat(card(), n)+lines(row...))
		}
	}
}

// sampleText is a text with all that a text may have.
const sampleText = "BEGIN:VCARD\r\nVERSION:4.0\r\nFN:Zo\u00eb\r\ng1.Tel;type=home;X-p=\"a;b\":+1\r\n 23\r\nEND:x\r\nend:VCARD\r\nbegin:vcard\r\ng.Version;a=b:4.0\r\nEND:VCARD\r\n"

// The sample with each byte away, another, or put in; also cut, and with a byte twice.
func TestEachByte(t *testing.T) {
	odd := []string{"", "a", "A", "0", "-", ".", ";", ":", ",", "=", `"`, " ", "\t", "\r", "\n", "\r\n", "\r\n ", "_", "é", "\xff", "\u017f", "\u212a", "\u0131", "BEGIN:VCARD\r\n", "END:VCARD\r\n", "\r\nEND:VCARD\r\n", "VERSION:4.0\r\n", "x:y\r\n"}
	if l, err := held(t, sampleText); err != api.OK || len(l) != 2 {
		t.Fatalf("P11.1: Read of the sample: %q, %d", l, err)
	}
	for i := range len(sampleText) {
		for _, s := range odd {
			held(t, sampleText[:i]+s+sampleText[i:])
			held(t, sampleText[:i]+s+sampleText[i+1:])
		}
		held(t, sampleText[:i])
		held(t, sampleText[i:])
		held(t, sampleText[:i]+strings.ToUpper(sampleText[i:]))
		held(t, strings.ToLower(sampleText[:i])+sampleText[i:])
	}
}

// Each property of these parts, alone and between others.
func TestEachPropertyWritten(t *testing.T) {
	params := [][]api.Attr{nil, {}}
	for _, name := range []string{"A", "TYPE", "X-9", "-", "", "a", "Ab", "A B", "A;B=", "A=", "é", "A\r\n"} {
		for _, value := range []string{"", "a", "a b", ";", ":", ",", "=", "'", `"`, `a"b`, `"a"`, `";B="`, "\t", "\r", "\n", "a\r\nb", "é", "\xff", "\x00", "\x7f", "\uffff", "\ufeff"} {
			params = append(params, []api.Attr{{Name: name, Value: value}}, []api.Attr{{Name: "OK", Value: "x,y"}, {Name: name, Value: value}})
		}
	}
	for _, group := range []string{"", "g", "G-1", ".", "g.", ".g", "g.h", "g ", "é", "\n"} {
		for _, name := range []string{"FN", "END", "X-A9", "BEGIN", "VERSION", "", "fn", "Fn", "end", "F.N", "F N", "FN:", "FN;A=b", "\xff"} {
			for _, value := range []string{"", "a", "VCARD", "vCard", "4.0", ":;,\"\\", " \té ", "a\r", "a\nb", "\xff", "\x0b", "\ufffe"} {
				for _, l := range params {
					p := api.Prop{Group: group, Name: name, Params: l, Value: value}
					heldWrite(t, [][]api.Prop{{p}})
				}
				p := api.Prop{Group: group, Name: name, Value: value}
				heldWrite(t, [][]api.Prop{{{Name: "FN"}, p, {Name: "FN"}}, nil})
				heldWrite(t, [][]api.Prop{{{Name: "FN"}}, nil, {p}})
			}
		}
	}
}

// Each sign up to 0x3000, and bytes that begin none, in Values, as they are read and written.
func TestEachSignOfValues(t *testing.T) {
	var all []string
	for c := range rune(0x3000) {
		all = append(all, string(c))
	}
	for c := range 256 {
		all = append(all, string([]byte{byte(c)}))
	}
	for _, s := range all {
		for _, value := range []string{s, "v" + s, s + "v", "v" + s + "v"} {
			held(t, card("FN:"+value))
			held(t, card("FN;P="+value+":v"))
			held(t, card(`FN;P="`+value+`":v`))
			heldWrite(t, [][]api.Prop{{{Name: "FN", Value: value}}})
			heldWrite(t, [][]api.Prop{{{Name: "FN", Params: []api.Attr{{Name: "P", Value: value}}}}})
			heldWrite(t, [][]api.Prop{{{Name: "FN", Params: []api.Attr{{Name: "P", Value: ";" + value}}}}})
		}
	}
}

// by tells one of l.
func by(chance *rand.Rand, l ...string) string { return l[chance.Intn(len(l))] }

// chanceProp is a property made by chance: one that can be written.
func chanceProp(chance *rand.Rand, long int) api.Prop {
	p := api.Prop{Group: by(chance, "", "", "g", "item-1"), Name: by(chance, "FN", "TEL", "X-A", "END", "0")}
	for range chance.Intn(4) {
		value := strings.Repeat(by(chance, "", "a", ";", ":b", ",é", "=", "日 ", "'"), chance.Intn(5))
		p.Params = append(p.Params, api.Attr{Name: by(chance, "TYPE", "A", "A-9"), Value: value})
	}
	p.Value = by(chance, "", "x", "  ", "\t") + strings.Repeat(by(chance, "a", "é", "日", "😀", ":", ";", `"`, " ", "\t"), chance.Intn(long))
	return p
}

// Cards made by chance: many of them small, some great.
func TestCardsByChance(t *testing.T) {
	chance := rand.New(rand.NewSource(11))
	errs := map[api.Errno]int{}
	for range 1_000 {
		var l [][]api.Prop
		most := 1 + chance.Intn(41)
		for range chance.Intn(62) {
			var card []api.Prop
			for range chance.Intn(most) {
				card = append(card, chanceProp(chance, 1+chance.Intn(60)))
			}
			l = append(l, card)
		}
		errs[heldWrite(t, l)]++
	}
	if errs[api.OK] < 100 || errs[api.ErrBig] < 100 || errs[api.ErrValue] < 5 {
		t.Errorf("P11.1: the errors of cards by chance: %v", errs)
	}
}

// Texts by chance: what is written, with its capitals and rows otherwise, and with something wrong.
func TestTextsByChance(t *testing.T) {
	chance := rand.New(rand.NewSource(12))
	errs := map[api.Errno]int{}
	for range 3_000 {
		var b strings.Builder
		for range chance.Intn(8) {
			b.WriteString(lines(by(chance, "BEGIN:VCARD", "begin:VCARD", "Begin:vcard"), by(chance, "VERSION:4.0", "version:4.0", "g.Version;X=\"y\":4.0")))
			for range chance.Intn(8) {
				line := toldProperty(chanceProp(chance, 200))
				b.WriteString(fold.Fold([]string{by(chance, line, strings.ToLower(line))}))
			}
			b.WriteString(lines(by(chance, "END:VCARD", "end:VCARD", "End:vcard")))
		}
		s := b.String()
		if at := chance.Intn(len(s) + 1); chance.Intn(2) == 0 {
			s = s[:at] + by(chance, "\r\n", "\r\n ", "\r\n?", `"`, ";", ".", "\n", "\xff", "\r\nBEGIN:VCARD\r\n", "\r\nEND:VCARD\r\n") + s[at:]
		}
		_, err := held(t, s)
		errs[err]++
	}
	for _, err := range []api.Errno{api.OK, api.ErrLine, api.ErrUtf, api.ErrCard} {
		if errs[err] < 50 {
			t.Errorf("P11.1: the errors of texts by chance: %v", errs)
		}
	}
}

// R1: whatever is given, there is an answer; R2: the same one each time.
func TestAlwaysAlike(t *testing.T) {
	for _, s := range []string{"", "\xff", sampleText, sampleText + "x\r\n", strings.Repeat("x", 1_000_000), strings.Repeat(card(), 600)} {
		l, at, err := Read(s)
		for range 20 {
			m, i, e := Read(s)
			if !reflect.DeepEqual(l, m) || i != at || e != err {
				t.Fatalf("R2: Read(%.100q) again: %q, %d, %d", s, m, i, e)
			}
		}
	}
}
