package vcard

import (
	"fmt"
	"slices"
	"strings"
	"testing"

	"cardex/api"
)

// lines is l, each line with its end.
func lines(l ...string) string {
	var b strings.Builder
	for _, line := range l {
		b.WriteString(line + "\r\n")
	}
	return b.String()
}

// card is a card of these lines.
func card(l ...string) string {
	return lines("BEGIN:VCARD", "VERSION:4.0") + lines(l...) + lines("END:VCARD")
}

// many is n times the line.
func many(line string, n int) []string { return slices.Repeat([]string{line}, n) }

// prop is a property of no Group; its parameters are each a name with its Value behind it.
func prop(name, value string, params ...string) api.Prop {
	p := api.Prop{Name: name, Value: value}
	for pair := range slices.Chunk(params, 2) {
		p.Params = append(p.Params, api.Attr{Name: pair[0], Value: pair[1]})
	}
	return p
}

// of is a card of these properties.
func of(l ...api.Prop) []api.Prop { return l }

// lineIs holds that the line is read as p, alone and beside others.
func lineIs(t *testing.T, line string, p api.Prop) {
	t.Helper()
	readIs(t, card(line), 0, api.OK, of(p))
	readIs(t, card("A:b", line, line, "A:b"), 0, api.OK, of(prop("A", "b"), p, p, prop("A", "b")))
	readIs(t, card()+card("A:b")+card(line)+card(), 0, api.OK, nil, of(prop("A", "b")), of(p), nil)
}

// lineWrong holds that the line is no property's, wherever it stands in a card.
func lineWrong(t *testing.T, line string) {
	t.Helper()
	readIs(t, card(line), 3, api.ErrLine)
	readIs(t, card("A:b", line), 4, api.ErrLine)
	readIs(t, card("A:b", line, line, "A:b"), 4, api.ErrLine)
	readIs(t, card(append(many("A:b", 39), line)...), 42, api.ErrLine)
	readIs(t, card("A:b")+card()+card("A:b", line), 11, api.ErrLine)
	readIs(t, lines("BEGIN:VCARD", "VERSION:4.0", line), 3, api.ErrLine)
	readIs(t, lines("BEGIN:VCARD", line, "END:VCARD"), 2, api.ErrCard)
	readIs(t, lines(line)+card(), 1, api.ErrCard)
}

func TestOrdinaryCards(t *testing.T) {
	readIs(t, card("FN:Juliet Capulet", "N:Capulet;Juliet;;;", "IMPP:xmpp:juliet@example.org"), 0, api.OK,
		of(prop("FN", "Juliet Capulet"), prop("N", "Capulet;Juliet;;;"), prop("IMPP", "xmpp:juliet@example.org")))
	readIs(t, card("FN:a")+card("FN:b", "TEL;TYPE=home:1"), 0, api.OK, of(prop("FN", "a")), of(prop("FN", "b"), prop("TEL", "1", "TYPE", "home")))
	readIs(t, card("FN:b", "FN:b", "FN:a"), 0, api.OK, of(prop("FN", "b"), prop("FN", "b"), prop("FN", "a")))
	p := prop("TEL", "+1", "TYPE", "home,work", "PREF", "1")
	p.Group = "item1"
	lineIs(t, `item1.tel;type="home,work";pref=1:+1`, p)
}

func TestNothing(t *testing.T) {
	l, at, err := Read("")
	if l != nil || at != 0 || err != api.OK {
		t.Errorf("P11.1: Read of nothing: %q, %d, %d", l, at, err)
	}
}

// fold.Unfold's errors, with 0: ahead of whatever is wrong in the lines.
func TestErrorsOfUnfold(t *testing.T) {
	for _, ahead := range []string{"", card(), card("FN:a"), lines("x"), lines("BEGIN:VCARD", "?"), card("BEGIN:VCARD"), strings.Repeat(card(), 61), card(many("A:b", 41)...), lines("BEGIN:VCARD")} {
		for _, behind := range []string{"", card(), lines("x"), lines("BEGIN:VCARD")} {
			readIs(t, ahead+"\xff"+behind, 0, api.ErrUtf)
			readIs(t, ahead+lines("FN:\x01")+behind, 0, api.ErrUtf)
			readIs(t, ahead+lines("FN:\uffff")+behind, 0, api.ErrUtf)
			readIs(t, ahead+"\n"+behind, 0, api.ErrLine)
			readIs(t, ahead+"FN:a\rb\r\n"+behind, 0, api.ErrLine)
			readIs(t, ahead+"\xff\n"+behind, 0, api.ErrUtf)
		}
		readIs(t, ahead+"FN:a", 0, api.ErrLine)
		readIs(t, ahead+"END:VCARD", 0, api.ErrLine)
		readIs(t, ahead+lines(strings.Repeat("x", 20_000)), 0, api.ErrBig)
		readIs(t, ahead+strings.Repeat("\xff\n", 10_001), 0, api.ErrBig)
	}
	readIs(t, lines(" x"), 0, api.ErrLine) // it goes on, but there is nothing to go on with
	readIs(t, lines(" BEGIN:VCARD", "VERSION:4.0", "END:VCARD"), 0, api.ErrLine)
	readIs(t, "\t"+card(), 0, api.ErrLine)
	readIs(t, "BEGIN:VCARD", 0, api.ErrLine)
	readIs(t, card("FN:a")+"\r", 0, api.ErrLine)
	readIs(t, strings.ReplaceAll(card("FN:a"), "\r", ""), 0, api.ErrLine)
}

// MaxBytes bytes are read, one more is not, whatever they are.
func TestManyBytes(t *testing.T) {
	room := 20_000 - len(card("NOTE:"))
	readIs(t, card("NOTE:"+strings.Repeat("x", room)), 0, api.OK, of(prop("NOTE", strings.Repeat("x", room))))
	readIs(t, card("NOTE:"+strings.Repeat("x", room-1)), 0, api.OK, of(prop("NOTE", strings.Repeat("x", room-1))))
	readIs(t, card("NOTE:"+strings.Repeat("x", room+1)), 0, api.ErrBig)
	readIs(t, strings.Repeat("x", 19_998)+"\r\n", 1, api.ErrCard)
	readIs(t, strings.Repeat("x", 19_999)+"\r\n", 0, api.ErrBig)
	readIs(t, strings.Repeat("\r\n", 10_000), 1, api.ErrCard)
	readIs(t, strings.Repeat("\r\n", 10_001), 0, api.ErrBig)
}

// Which line is wrong is counted in lines, in however many rows they are.
func TestNumbersOfLines(t *testing.T) {
	rows := []string{"NO", " TE:a", "\tb", " ", " c"}
	readIs(t, card(rows...), 0, api.OK, of(prop("NOTE", "abc")))
	readIs(t, card(append(rows, "?")...), 4, api.ErrLine)
	readIs(t, card(append(rows, "A:b", " c", "VERSION:4.0")...), 5, api.ErrCard)
	readIs(t, card(rows...)+lines("x", " y"), 5, api.ErrCard)
	readIs(t, lines("BEG", " IN:", " VCARD", "VER", "\tSION:4.0", "?", " ?"), 3, api.ErrLine)
	readIs(t, lines("BEG", " IN:", " VCARD", "VER", "\tSION:4.0", "END:", " ", " VCARD"), 0, api.OK, nil)
	readIs(t, lines("BEGIN:VCARD", " ", "VERSION:4.0")+lines(rows...)+lines(rows...), 4, api.ErrCard)
	readIs(t, lines("x", " y"), 1, api.ErrCard)
	for n := range 40 {
		readIs(t, card(append(many("A:b", n), "?")...), n+3, api.ErrLine)
		readIs(t, lines("BEGIN:VCARD", "VERSION:4.0")+lines(many("A:b", n)...), n+2, api.ErrCard)
		readIs(t, strings.Repeat(card("A:", " b"), n)+lines("A:b"), 4*n+1, api.ErrCard)
		readIs(t, strings.Repeat(card(rows...), n)+card(rows...), 0, api.OK, slices.Repeat([][]api.Prop{of(prop("NOTE", "abc"))}, n+1)...)
		readIs(t, strings.Repeat(card(rows...), n)+card("?"), 4*n+3, api.ErrLine)
		readIs(t, strings.Repeat(card(rows...), n)+lines("BEGIN:VCARD", "END:VCARD"), 4*n+2, api.ErrCard)
	}
}

// capitalsOf are s with capitals and small letters in some ways.
func capitalsOf(s string) []string {
	all := []string{strings.ToUpper(s), strings.ToLower(s)}
	for i := range len(s) {
		all = append(all, strings.ToUpper(s[:i])+strings.ToLower(s[i:]), strings.ToLower(s[:i])+strings.ToUpper(s[i:]),
			strings.ToUpper(s[:i])+strings.ToLower(s[i:i+1])+strings.ToUpper(s[i+1:]), strings.ToLower(s[:i])+strings.ToUpper(s[i:i+1])+strings.ToLower(s[i+1:]))
	}
	return all
}

// What a card begins with: in any capitals, and nothing else.
func TestBegin(t *testing.T) {
	for _, s := range capitalsOf("BEGIN:VCARD") {
		readIs(t, lines(s, "VERSION:4.0", "END:VCARD"), 0, api.OK, nil)
		readIs(t, card("A:b")+lines(s, "VERSION:4.0", "END:VCARD"), 0, api.OK, of(prop("A", "b")), nil)
	}
	for _, s := range []string{"", "x", "?", "A:b", "g.BEGIN:VCARD", "BEGIN;a=b:VCARD", "BEGIN;:VCARD", "BEGIN:VCARD ", "BEGIN: VCARD", "BEGIN :VCARD", "BEGIN:\tVCARD", "BEGIN:VCARD\t", "BEGIN:", "BEGIN", "VCARD", ":VCARD", "BEGIN:VCARDS", "BEGIN:VCAR", "BEGIN:VEVENT", "BEGIN:VCARD;", "BEGIN:VCARD:", ".BEGIN:VCARD", "BEGIN=VCARD", "BEGIN;VCARD", `"BEGIN:VCARD"`, "\ufeffBEGIN:VCARD", "BEG\u0130N:VCARD", "BEG\u0131N:VCARD", "BEGIN:VC\u212bRD", "\uff22EGIN:VCARD", "BEGIN\u037eVCARD", "VERSION:4.0", "VERSION:3.0", "END:VCARD", "end:vcard", "BEGIN:VCARDVERSION:4.0"} {
		for _, n := range []int{0, 1, 2, 59, 60} {
			ahead := strings.Repeat(card(), n)
			readIs(t, ahead+lines(s), 3*n+1, api.ErrCard)
			readIs(t, ahead+lines(s)+card(), 3*n+1, api.ErrCard)
			readIs(t, ahead+lines(s, "VERSION:4.0", "END:VCARD"), 3*n+1, api.ErrCard)
			readIs(t, ahead+lines(s, "?"), 3*n+1, api.ErrCard)
		}
	}
	readIs(t, card("A:b")+lines("A:b", "END:VCARD"), 5, api.ErrCard) // what is behind END is outside
	readIs(t, card()+lines("END:VCARD"), 4, api.ErrCard)
}

// Cards, one right behind the other.
func TestCardsBehindCards(t *testing.T) {
	var want [][]api.Prop
	s := ""
	for n := range 60 {
		name := fmt.Sprint("X-", n)
		s += card(name+":a", "B:"+name)
		want = append(want, of(prop(name, "a"), prop("B", name)))
		readIs(t, s, 0, api.OK, want...)
		readIs(t, s+lines(""), 5*n+6, api.ErrCard)
	}
}

// What is first in a card: the VERSION, which is not told.
func TestVersion(t *testing.T) {
	for _, name := range capitalsOf("VERSION") {
		for _, s := range []string{name + ":4.0", "g." + name + ":4.0", "G-1." + name + ":4.0", name + ";x=y:4.0", name + `;x="";y="4.1:5;";x=:4.0`, "g." + name + ";x=y:4.0"} {
			readIs(t, lines("BEGIN:VCARD", s, "END:VCARD"), 0, api.OK, nil)
			readIs(t, lines("BEGIN:VCARD", s, "FN:a", "END:VCARD")+card("A:b"), 0, api.OK, of(prop("FN", "a")), of(prop("A", "b")))
		}
		for _, s := range []string{name + ":4.1", name + ":", name + ":3.0", name + ":4", name + ":4.00", name + ": 4.0", name + ":4.0 ", name + ":4.0;", name + ":\t4.0", name + ":4,0", name + ":4\\.0", name + ":4.0:4.0", name + `:"4.0"`, name + ":04.0", name + ":４.0", name, name + "4.0", name + ";:4.0", name + ";x:4.0", name + `;x="y:4.0`, name + " :4.0", name + "=4.0", "g.h." + name + ":4.0", "." + name + ":4.0", "g " + name + ":4.0", name + "S:4.0", "X-" + name + ":4.0", name + ";4.0:"} {
			readIs(t, lines("BEGIN:VCARD", s, "END:VCARD"), 2, api.ErrCard)
			readIs(t, lines("BEGIN:VCARD", s), 2, api.ErrCard)
			readIs(t, card("A:b")+lines("BEGIN:VCARD", s, "VERSION:4.0", "END:VCARD"), 6, api.ErrCard)
		}
	}
	for _, s := range []string{"", "?", "x", ":", ".", "A:b", "FN:4.0", "g.FN:4.0", "VER:4.0", "VER\u017fION:4.0", "VERS\u0130ON:4.0", "VERS\u0131ON:4.0", "END:VCARD", "end:vcard", "END:x", "BEGIN:VCARD", "begin:vcard", "BEGIN:x", "4.0", "VERSION:4.0VERSION:4.0", "FN:VERSION:4.0", "A;VERSION=4.0:4.0", "VERSION.A:4.0", ";VERSION:4.0"} {
		readIs(t, lines("BEGIN:VCARD", s), 2, api.ErrCard)
		readIs(t, lines("BEGIN:VCARD", s, "VERSION:4.0", "END:VCARD"), 2, api.ErrCard)
		readIs(t, strings.Repeat(card("A:b"), 59)+lines("BEGIN:VCARD", s, "END:VCARD"), 59*4+2, api.ErrCard)
	}
}

// What a card ends with: in any capitals; with anything else to it, it is a property.
func TestEnd(t *testing.T) {
	for _, s := range capitalsOf("END:VCARD") {
		readIs(t, lines("BEGIN:VCARD", "VERSION:4.0", s), 0, api.OK, nil)
		readIs(t, lines("BEGIN:VCARD", "VERSION:4.0", "A:b", s)+card(), 0, api.OK, of(prop("A", "b")), nil)
		readIs(t, lines("BEGIN:VCARD", "VERSION:4.0", s, s), 4, api.ErrCard)
		readIs(t, lines("BEGIN:VCARD", "VERSION:4.0", s, "A:b", s), 4, api.ErrCard)
		readIs(t, lines(append(append([]string{"BEGIN:VCARD", "VERSION:4.0"}, many("A:b", 40)...), s)...), 0, api.OK, slices.Repeat(of(prop("A", "b")), 40))
		name, value, _ := strings.Cut(s, ":")
		group := prop("END", value)
		group.Group = "g"
		lineIs(t, "g."+s, group)
		lineIs(t, name+";a=b:"+value, prop("END", value, "A", "b"))
		lineIs(t, name+`;a="":`+value, prop("END", value, "A", ""))
		for _, v := range []string{"", " ", "x", value + " ", " " + value, value + "S", value[1:], value + ":", ":" + value, value + ";", `"` + value + `"`, "\t" + value, "\ufeff" + value, "VCÅRD", "VEVENT", value + value} {
			lineIs(t, name+":"+v, prop("END", v))
		}
		for _, v := range []string{name, "." + s, "g.h." + s, name + " :" + value, " " + s, name + ";:" + value, name + ";a:" + value, name + "=" + value, s[3:], "é" + s} {
			if v[0] != ' ' {
				lineWrong(t, v)
			}
		}
	}
}

// A card of no property, and one of some, tell no VERSION and no END.
func TestWhatIsNotTold(t *testing.T) {
	l, at, err := Read(card() + card("A:b") + card())
	if err != api.OK || at != 0 || len(l) != 3 || len(l[0]) != 0 || len(l[1]) != 1 || len(l[2]) != 0 {
		t.Errorf("P11.1: Read of cards of none, of one, and of none: %q, %d, %d", l, at, err)
	}
}

// BEGIN and VERSION are no card's own, whatever they have.
func TestBeginAndVersionWithin(t *testing.T) {
	for _, word := range []string{"BEGIN", "VERSION"} {
		for _, name := range capitalsOf(word) {
			for _, s := range []string{name + ":VCARD", name + ":4.0", name + ":", name + ":x", "g." + name + ":4.0", "g." + name + ":VCARD", name + ";a=b:VCARD", name + `;a="b:c";d=:4.0`, "g." + name + ";a=b:x"} {
				for _, n := range []int{0, 1, 39, 40, 41} {
					at := min(n, 40) + 3
					err := api.ErrCard
					if n > 40 {
						err = api.ErrBig
					}
					readIs(t, card(append(many("A:b", n), s)...), at, err)
					readIs(t, card(append(many("A:b", n), s, "?")...), at, err)
					readIs(t, card()+lines("BEGIN:VCARD", "VERSION:4.0")+lines(append(many("A:b", n), s)...), at+3, err)
				}
			}
			lineWrong(t, name)
			lineWrong(t, name+";:4.0")
			lineWrong(t, name+" :VCARD")
			lineWrong(t, "."+name+":VCARD")
			lineIs(t, name+"S:4.0", prop(word+"S", "4.0"))
			lineIs(t, "X-"+name+":VCARD", prop("X-"+word, "VCARD"))
			lineIs(t, "A;"+name+"=x:VCARD", prop("A", "VCARD", word, "x"))
			lineIs(t, "A:"+name+":VCARD", prop("A", name+":VCARD"))
			p := prop("A", "4.0")
			p.Group = name
			lineIs(t, name+".a:4.0", p)
		}
	}
}

// MaxProps properties of a card, and one more.
func TestManyProperties(t *testing.T) {
	full := slices.Repeat(of(prop("A", "b")), 40)
	readIs(t, card(many("A:b", 40)...), 0, api.OK, full)
	readIs(t, card(many("A:b", 39)...), 0, api.OK, full[1:])
	readIs(t, card(many("A:b", 41)...), 43, api.ErrBig)
	readIs(t, card(many("A:b", 500)...), 43, api.ErrBig)
	readIs(t, card(many("A:b", 40)...)+card(many("A:b", 40)...)+card("A:b"), 0, api.OK, full, full, full[:1])
	readIs(t, card(many("A:b", 40)...)+card()+card(many("A:b", 41)...), 43+3+43, api.ErrBig)
	readIs(t, card(many("END:x", 40)...), 0, api.OK, slices.Repeat(of(prop("END", "x")), 40))
	readIs(t, card(many("END:x", 41)...), 43, api.ErrBig)
	readIs(t, card(append(many("A:b", 40), " c", " d")...), 0, api.OK, append(slices.Clone(full[:39]), prop("A", "bcd")))
	readIs(t, strings.Repeat(card(many("A:b", 40)...), 60), 0, api.OK, slices.Repeat([][]api.Prop{full}, 60)...)
	readIs(t, strings.Repeat(card(many("A:b", 40)...), 59)+card(many("A:b", 41)...), 59*43+43, api.ErrBig)
	// The first one too many counts for what it is.
	readIs(t, card(append(many("A:b", 40), "?", "A:b")...), 43, api.ErrLine)
	readIs(t, card(append(many("A:b", 40), "VERSION:4.0")...), 43, api.ErrCard)
	readIs(t, card(append(many("A:b", 40), "BEGIN:VCARD")...), 43, api.ErrCard)
	readIs(t, card(append(many("A:b", 41), "?")...), 43, api.ErrBig)
	readIs(t, card(append(many("A:b", 39), "?", "A:b", "A:b")...), 42, api.ErrLine)
	readIs(t, lines("BEGIN:VCARD", "VERSION:4.0")+lines(many("A:b", 41)...), 43, api.ErrBig)
	readIs(t, lines("BEGIN:VCARD", "VERSION:4.0")+lines(many("A:b", 40)...), 42, api.ErrCard)
}

// MaxCards cards, and one more: wrong where it begins, whatever is behind it.
func TestManyCards(t *testing.T) {
	for _, s := range []string{card(), card("A:b"), card("A:b", "C:d")} {
		l, _, _ := Read(s)
		n := strings.Count(s, "\r\n")
		readIs(t, strings.Repeat(s, 59), 0, api.OK, slices.Repeat(l, 59)...)
		readIs(t, strings.Repeat(s, 60), 0, api.OK, slices.Repeat(l, 60)...)
		readIs(t, strings.Repeat(s, 61), 60*n+1, api.ErrBig)
		readIs(t, strings.Repeat(s, 200), 60*n+1, api.ErrBig)
		for _, begin := range []string{"BEGIN:VCARD", "begin:vcard"} {
			for _, behind := range []string{"", lines("VERSION:4.0"), lines("VERSION:3.0"), lines("?"), lines(""), lines("END:VCARD"), lines("BEGIN:VCARD"), lines("VERSION:4.0", "END:VCARD"), lines("VERSION:4.0") + lines(many("A:b", 41)...)} {
				readIs(t, strings.Repeat(s, 60)+lines(begin)+behind, 60*n+1, api.ErrBig)
			}
		}
		readIs(t, strings.Repeat(s, 60)+lines("x"), 60*n+1, api.ErrCard)
		readIs(t, strings.Repeat(s, 60)+lines("g.BEGIN:VCARD"), 60*n+1, api.ErrCard)
		readIs(t, strings.Repeat(s, 59)+lines("BEGIN:VCARD", "VERSION:3.0", "BEGIN:VCARD"), 59*n+2, api.ErrCard)
	}
}

// A card that is open at the end: the number of lines, wherever it ends.
func TestOpenAtTheEnd(t *testing.T) {
	for n := range 60 {
		ahead := strings.Repeat(card("A:", " b"), n)
		for _, l := range [][]string{{"BEGIN:VCARD"}, {"BEGIN:VCARD", "VERSION:4.0"}, {"BEGIN:VCARD", "VERSION:4.0", "A:b"}, {"BEGIN:VCARD", "VERSION:4.0", "A:b", "C:d", "END:x"}, {"begin:vcard", "version:4.0", "g.END:VCARD"}} {
			readIs(t, ahead+lines(l...), 4*n+len(l), api.ErrCard)
			readIs(t, ahead+lines(append(l, " ")...), 4*n+len(l), api.ErrCard)
			readIs(t, ahead+lines(append(l, "", "")...), 4*n+len(l)+1, errOfNothing(len(l)))
		}
	}
}

// errOfNothing is the error of a line of no bytes behind n lines of a card.
func errOfNothing(n int) api.Errno {
	if n == 1 {
		return api.ErrCard
	}
	return api.ErrLine
}

// The first line that is wrong counts, whatever is wrong behind it.
func TestWhichErrorCounts(t *testing.T) {
	for _, r := range []struct {
		err  api.Errno
		line string
	}{{api.ErrLine, "?"}, {api.ErrLine, ""}, {api.ErrLine, "FN;a:b"}, {api.ErrCard, "BEGIN:VCARD"}, {api.ErrCard, "g.version;a=b:4.0"}} {
		for _, behind := range [][]string{{"?"}, {"BEGIN:VCARD"}, {"VERSION:3.0"}, many("A:b", 41), {"END:VCARD", "x"}, {"END:VCARD", "BEGIN:VCARD"}, {"END:VCARD", "BEGIN:VCARD", "?"}} {
			readIs(t, card(append([]string{r.line}, behind...)...), 3, r.err)
			readIs(t, card("A:b")+card(append([]string{"A:b", r.line}, behind...)...), 8, r.err)
			readIs(t, lines(append([]string{"BEGIN:VCARD", "VERSION:4.0", r.line}, behind...)...), 3, r.err)
			readIs(t, card(append([]string{r.line}, behind...)...)+strings.Repeat(card(), 60), 3, r.err)
		}
	}
}

// R3: what is handed out is new each time, and no two lists share their memory, nor the room behind their ends.
func TestCardsAreNew(t *testing.T) {
	s := card(many("A;b=c;d=e;f=g:h", 5)...) + card(many("A;b=c:h", 3)...) + strings.Repeat(card("x:y"), 5)
	want, _, _ := toldRead(s)
	one, _, _ := Read(s)
	two, _, _ := Read(s)
	for i := range one {
		_ = append(one[i], prop("Z", "z"), prop("Z", "z"))
		for j := range one[i] {
			_ = append(one[i][j].Params, api.Attr{Name: "Z"}, api.Attr{Name: "Z"})
		}
		if !same(one, want) {
			t.Fatalf("R3: who writes behind the lists of the card %d changes others: %q", i, one)
		}
	}
	for i := range one {
		for j := range one[i] {
			for k := range one[i][j].Params {
				one[i][j].Params[k] = api.Attr{Name: "changed"}
			}
			one[i][j] = prop("CHANGED", "")
			if !same([][]api.Prop{one[i][j+1:]}, [][]api.Prop{want[i][j+1:]}) || !same(one[i+1:], want[i+1:]) {
				t.Fatalf("R3: who writes into the card %d changes others: %q", i, one)
			}
		}
	}
	_ = append(one[:1], of(prop("Z", "z")))
	if !same(two, want) {
		t.Errorf("R3: who writes into the cards changes those of another call: %q", two)
	}
	readIs(t, s, 0, api.OK, want...)
}
