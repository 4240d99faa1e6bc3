package vcard

import (
	"reflect"
	"slices"
	"sort"
	"strings"
	"testing"

	"cardex/api"
	"cardex/fold"
)

// writes holds that l is written so, and read again.
func writes(t *testing.T, want string, l ...[]api.Prop) {
	t.Helper()
	if s, err := Write(l); s != want || err != api.OK {
		t.Fatalf("P11.1: Write(%.400q): %.400q, %d; want %.400q", l, s, err, want)
	}
	readIs(t, want, 0, api.OK, l...)
	if heldWrite(t, l) != api.OK {
		t.Fatalf("P11.1: Write(%.400q) is told to be wrong", l)
	}
}

// refuses holds that nothing is written of l.
func refuses(t *testing.T, err api.Errno, l ...[]api.Prop) {
	t.Helper()
	if s, e := Write(l); s != "" || e != err {
		t.Fatalf("P11.1: Write(%.400q): %.400q, %d; want %d", l, s, e, err)
	}
	if e := heldWrite(t, l); e != err {
		t.Fatalf("P11.1: Write(%.400q) is told to be %d, not %d", l, e, err)
	}
}

// good is a property that is written as "A:b".
var good = prop("A", "b")

// full is a card of MaxProps properties.
func full() []api.Prop { return slices.Repeat(of(good), 40) }

// comes holds that p is written as line, alone and beside others.
func comes(t *testing.T, line string, p api.Prop) {
	t.Helper()
	writes(t, card(line), of(p))
	writes(t, card("A:b", line, line, "A:b"), of(good, p, p, good))
	writes(t, card("A:b")+card()+card(line), of(good), nil, of(p))
	writes(t, card(append(many("A:b", 39), line)...), append(full()[1:], p))
}

// goes holds that p is refused, however much else is right, wherever it stands, and whatever else is wrong.
func goes(t *testing.T, p api.Prop) {
	t.Helper()
	refuses(t, api.ErrValue, of(p))
	refuses(t, api.ErrValue, of(good, p))
	refuses(t, api.ErrValue, of(p, good))
	refuses(t, api.ErrValue, of(good, p, good))
	refuses(t, api.ErrValue, of(p, p))
	refuses(t, api.ErrValue, append(full()[1:], p))
	refuses(t, api.ErrValue, append(full(), p))
	refuses(t, api.ErrValue, of(good), nil, full(), of(p))
	refuses(t, api.ErrValue, of(good, p), of(good))
	refuses(t, api.ErrValue, append(slices.Repeat([][]api.Prop{of(good)}, 59), of(p))...)
	refuses(t, api.ErrValue, append(slices.Repeat([][]api.Prop{of(good)}, 60), of(p))...)
	great := prop("A", strings.Repeat("x", 20_000))
	refuses(t, api.ErrValue, of(great, p))
	refuses(t, api.ErrValue, of(p), of(great))
}

func TestOrdinaryWritten(t *testing.T) {
	p := prop("TEL", "+1", "TYPE", "home,work", "PREF", "1")
	p.Group = "item1"
	writes(t, "BEGIN:VCARD\r\nVERSION:4.0\r\nFN:Juliet\r\nitem1.TEL;TYPE=\"home,work\";PREF=1:+1\r\nEND:VCARD\r\nBEGIN:VCARD\r\nVERSION:4.0\r\nEND:x\r\nEND:VCARD\r\n", of(prop("FN", "Juliet"), p), of(prop("END", "x")))
	writes(t, "BEGIN:VCARD\r\nVERSION:4.0\r\nN:Capulet;Juliet;;;\r\nN:b\r\nN:a\r\nEND:VCARD\r\n", of(prop("N", "Capulet;Juliet;;;"), prop("N", "b"), prop("N", "a")))
}

func TestNothingWritten(t *testing.T) {
	writes(t, "")
	if s, err := Write([][]api.Prop{}); s != "" || err != api.OK {
		t.Errorf("P11.1: Write of no cards: %q, %d", s, err)
	}
	writes(t, "BEGIN:VCARD\r\nVERSION:4.0\r\nEND:VCARD\r\n", nil)
	writes(t, "BEGIN:VCARD\r\nVERSION:4.0\r\nEND:VCARD\r\n", []api.Prop{})
	writes(t, card()+card("A:b")+card(), nil, of(good), nil)
}

// MaxCards cards, MaxProps properties of one, and one more of each.
func TestHowMany(t *testing.T) {
	for n := range 61 {
		writes(t, strings.Repeat(card(), n), make([][]api.Prop, n)...)
	}
	refuses(t, api.ErrValue, make([][]api.Prop, 61)...)
	refuses(t, api.ErrValue, make([][]api.Prop, 1_000)...)
	refuses(t, api.ErrValue, slices.Repeat([][]api.Prop{of(good)}, 61)...)
	for n := range 41 {
		writes(t, card(many("A:b", n)...), full()[:n])
		writes(t, card()+card(many("A:b", n)...)+card(), nil, full()[:n], nil)
	}
	over := append(full(), good)
	refuses(t, api.ErrValue, over)
	refuses(t, api.ErrValue, slices.Repeat(over, 20))
	refuses(t, api.ErrValue, full(), over)
	refuses(t, api.ErrValue, over, full())
	refuses(t, api.ErrValue, append(make([][]api.Prop, 59), over)...)
	all := slices.Repeat([][]api.Prop{full()}, 60)
	writes(t, strings.Repeat(card(many("A:b", 40)...), 60), all...)
	refuses(t, api.ErrValue, append(all, nil)...)
	all[59] = over
	refuses(t, api.ErrValue, all...)
	// More than one error: what may not be is told ahead of what is too great.
	great := prop("A", strings.Repeat("x", 30_000))
	refuses(t, api.ErrBig, of(great))
	refuses(t, api.ErrValue, slices.Repeat(of(great), 41))
	refuses(t, api.ErrValue, append(make([][]api.Prop, 60), of(great))...)
	refuses(t, api.ErrValue, of(great), over)
	refuses(t, api.ErrValue, of(great), of(prop("a", "b")))
	refuses(t, api.ErrBig, of(great), full())
}

// Names are words in capitals; Groups are words, or none.
func TestWordsWritten(t *testing.T) {
	for _, s := range []string{"A", "Z", "X-A9", "-", "0", "9-", "ABCDEFGHIJKLMNOPQRSTUVWXYZ0123456789-", "ENDS", "END-", "BEGINS", "VERSIONS", "X-BEGIN", "VCARD"} {
		comes(t, s+":v", prop(s, "v"))
		comes(t, "N;"+s+"=w:v", prop("N", "v", s, "w"))
		p := prop("N", "v")
		p.Group = s
		comes(t, s+".N:v", p)
		p.Group = strings.ToLower(s)
		comes(t, strings.ToLower(s)+".N:v", p)
	}
	for _, s := range []string{"a", "z", "aA", "Aa", "A b", " A", "A ", " ", "\t", "A\t", ".", "A.", ".A", "A.B", ":", "A:", ":A", "A:B", ";", "A;", "A;B", "A;B=C", "A;B=C:D", "=", "A=", "A=B", ",", "A,", `"`, `A"`, "_", "A_B", "/", "@", "[", "`", "{", "é", "É", "AÉ", "\u212a", "\u017f", "\uff21", "\uff10", "\r", "\n", "A\r\n", "\r\nA", "A\n", "A\r", "\r\n", "A\r\n B", "\x00", "A\x00", "\x7f", "\xff", "A\xff", "\xc3", "\uffff", "\ufeffA", "😀"} {
		goes(t, prop(s, "v"))
		goes(t, prop(s, ""))
		goes(t, prop("N", "v", s, "w"))
		goes(t, prop("N", "v", "OK", "x", s, ""))
		goes(t, prop("N", "v", s, ";", "OK", "x"))
		if toldGroup.MatchString(s) {
			continue // small letters may be in a Group
		}
		p := prop("N", "v")
		p.Group = s
		goes(t, p)
	}
	goes(t, prop("", ""))
	goes(t, prop("", "v"))
	goes(t, prop("N", "v", "", ""))
	goes(t, prop("N", "v", "", "w"))
	p := prop("", "v")
	p.Group = "g"
	goes(t, p)
}

// BEGIN, VERSION and END, with what may make them another line.
func TestNamesOfACardsOwn(t *testing.T) {
	for _, value := range []string{"VCARD", "vcard", "vCard", "4.0", "3.0", "", "x", "VCARD ", " VCARD", "VCARDS", "VCAR", "VCÅRD"} {
		for _, group := range []string{"", "g"} {
			for _, params := range [][]string{nil, {"A", "b"}, {"A", ""}, {"A", "b:c", "D", "e"}} {
				for _, name := range []string{"BEGIN", "VERSION", "begin", "Version", "Begin", "end", "End"} {
					p := prop(name, value, params...)
					p.Group = group
					goes(t, p)
				}
				p := prop("END", value, params...)
				p.Group = group
				if group == "" && params == nil && strings.ToUpper(value) == "VCARD" {
					goes(t, p)
				} else {
					comes(t, toldProperty(p), p)
				}
			}
		}
	}
	for _, value := range capitalsOf("VCARD") {
		goes(t, prop("END", value))
		comes(t, "END;A=b:"+value, prop("END", value, "A", "b"))
	}
}

// Values of properties, as they stand.
func TestValuesWritten(t *testing.T) {
	for _, s := range []string{"", "v", " ", "  v  ", "\t", "\tv\t", ":", ";", ",", `"`, `"v"`, "=", ".", `\`, `\n`, "a;b=c:d", "é", "日本", "😀", "\x7f", "\u0085", "\u2028", "\ufeff", "\ufffd", "\U0010ffff", "END:VCARD"} {
		comes(t, "FN:"+s, prop("FN", s))
		comes(t, "FN;A=b:"+s, prop("FN", s, "A", "b"))
	}
	for _, s := range noLine {
		goes(t, prop("FN", s))
		goes(t, prop("FN", "v"+s))
		goes(t, prop("FN", s+"v"))
		goes(t, prop("FN", "é"+s+"é"))
		goes(t, prop("FN", s, "A", "b"))
		p := prop("FN", s)
		p.Group = "g"
		goes(t, p)
	}
}

// noLine are texts that can stand in no line, and bytes that are no text.
var noLine = []string{"\r", "\n", "\r\n", "\n\r", "\r\n ", "\r\nEND:VCARD", "\x00", "\x01", "\x08", "\x0b", "\x0c", "\x1f", "\xff", "\x80", "\xc3", "\xc0\x80", "\xe2\x82", "\xed\xa0\x80", "\xf4\x90\x80\x80", "\ufffe", "\uffff"}

// Values of parameters: between quotes only where they must be.
func TestValuesOfParametersWritten(t *testing.T) {
	for _, s := range []string{"a", "aB", "=", "a=b", " ", " a ", "\t", ".", "'", `\`, `\n`, "é", "日 本", "😀", "-", "?", "\x7f", "\ufeff", "BEGIN"} {
		comes(t, "FN;P="+s+":v", prop("FN", "v", "P", s))
		comes(t, "FN;P="+s+";P="+s+":v", prop("FN", "v", "P", s, "P", s))
	}
	for _, s := range []string{"", ";", ":", ",", "a;", ";a", "a:", ":a", "a,", ",a", "a;b=c:d", ",,", "é:é", " ; ", ";=", "'a,b'", "BEGIN:VCARD"} {
		comes(t, `FN;P="`+s+`":v`, prop("FN", "v", "P", s))
		comes(t, `FN;P="`+s+`";Q=r;P="`+s+`":v`, prop("FN", "v", "P", s, "Q", "r", "P", s))
	}
	for _, s := range append([]string{`"`, `""`, `"a"`, `a"`, `"a`, `a"b`, `";"`, `a;"b`, `";P="`, `";P="a`, `a":`, `":"`, `,"`}, noLine...) {
		for _, s := range []string{s, "v" + s, s + "v", ";" + s, s + ","} {
			goes(t, prop("FN", "v", "P", s))
			goes(t, prop("FN", "v", "P", s, "Q", "r"))
			goes(t, prop("FN", "v", "Q", "r", "P", s))
		}
	}
	var all []string
	for range 300 {
		all = append(all, "P", "q")
	}
	writes(t, foldedCard("FN"+strings.Repeat(";P=q", 300)+":v"), of(prop("FN", "v", all...)))
}

// foldedCard is a card of one line of one-byte signs, in rows.
func foldedCard(line string) string {
	var rows []string
	for room := 75; len(line) > room; room = 74 {
		rows = append(rows, line[:room])
		line = line[room:]
	}
	rows = append(rows, line)
	return card(strings.Join(rows, "\r\n "))
}

// Long lines go on in rows, near the places where rows end.
func TestRows(t *testing.T) {
	for n := range 400 {
		s := strings.Repeat("X", n)
		writes(t, foldedCard("NOTE:"+s), of(prop("NOTE", s)))
		writes(t, foldedCard("NOTE:"+s+"  "+s), of(prop("NOTE", s+"  "+s)))
		writes(t, foldedCard(`N;P="`+s+`;":v`), of(prop("N", "v", "P", s+";")))
		writes(t, foldedCard("N"+s+":v"), of(prop("N"+s, "v")))
		writes(t, foldedCard("N"+s+":v")+card("A:b")+foldedCard("NOTE:"+s), of(prop("N"+s, "v")), of(good), of(prop("NOTE", s)))
	}
	// 75 bytes are a row, and 74 more each other one; no character is parted.
	writes(t, card("N:"+strings.Repeat("x", 73)), of(prop("N", strings.Repeat("x", 73))))
	writes(t, card("N:"+strings.Repeat("x", 73), " x"), of(prop("N", strings.Repeat("x", 74))))
	writes(t, card("N:"+strings.Repeat("x", 72), " é"), of(prop("N", strings.Repeat("x", 72)+"é")))
	writes(t, card("N:"+strings.Repeat("x", 71)+"é", " y"), of(prop("N", strings.Repeat("x", 71)+"éy")))
	writes(t, card("N:"+strings.Repeat("x", 70), " 😀"+strings.Repeat("y", 70), " z"), of(prop("N", strings.Repeat("x", 70)+"😀"+strings.Repeat("y", 70)+"z")))
	writes(t, card("N:"+strings.Repeat(" ", 73), "   "), of(prop("N", strings.Repeat(" ", 75))))
	writes(t, card("N:"+strings.Repeat("\t", 73), " \t"), of(prop("N", strings.Repeat("\t", 74))))
}

// sized are the others and a card with them, in which s is repeated, that are written in size bytes.
func sized(size int, others [][]api.Prop, s string) [][]api.Prop {
	ahead, _ := toldWrite(others)
	room := size - len(ahead) - len(card("A:"))
	line := func(n int) int { return len(fold.Fold([]string{"NOTE:" + strings.Repeat(s, n)})) }
	n := sort.Search(room, func(n int) bool { return line(n+1) > room })
	// What is left is less than a row.
	return append(slices.Clone(others), of(prop("NOTE", strings.Repeat(s, n)), prop("A", strings.Repeat("-", room-line(n)))))
}

// MaxBytes bytes are written, and read again; one more is not.
func TestHowManyBytes(t *testing.T) {
	for _, others := range [][][]api.Prop{nil, make([][]api.Prop, 59), {full(), full()}, slices.Repeat([][]api.Prop{full()}, 59), {of(prop("N", strings.Repeat("é", 3_000)))}} {
		for _, s := range []string{"x", "é", "日", "😀", " ", "\t", ":", `"`} {
			for size := 19_998; size <= 20_000; size++ {
				l := sized(size, others, s)
				if written, err := Write(l); len(written) != size || err != api.OK {
					t.Fatalf("P11.1: Write of cards of %d bytes: %d bytes, %d", size, len(written), err)
				}
				heldWrite(t, l)
			}
			refuses(t, api.ErrBig, sized(20_001, others, s)...)
			refuses(t, api.ErrBig, sized(20_002, others, s)...)
		}
	}
	room := 20_000 - len(card())
	for _, n := range []int{room, 20_000, 1_000_000} {
		refuses(t, api.ErrBig, of(prop("NOTE", strings.Repeat("x", n))))
		refuses(t, api.ErrBig, of(good), of(prop("N", "v", "P", strings.Repeat("x", n))), of(good))
		refuses(t, api.ErrBig, of(prop("N"+strings.Repeat("X", n), "")))
	}
	// Of many that are small.
	refuses(t, api.ErrBig, slices.Repeat([][]api.Prop{slices.Repeat(of(prop("NOTE", "x")), 40)}, 60)...)
}

// R3: what is handed in, its parameters too, is not changed, nor the room behind the ends of its lists.
func TestHandedInStays(t *testing.T) {
	for _, wrong := range []string{"OK", "not ok"} {
		params := []api.Attr{{Name: "A", Value: "b;c"}, {Name: wrong, Value: ""}, {Name: "BEHIND", Value: "x"}}
		props := []api.Prop{{Group: "g", Name: "FN", Value: "v", Params: params[:2]}, {Name: "N", Params: params[:1]}, {Name: "BEHIND"}}
		cards := [][]api.Prop{props[:2], props[:1], nil, props}
		want := [][]api.Prop{}
		for _, card := range cards {
			var copied []api.Prop
			for _, p := range card {
				p.Params = slices.Clone(p.Params[:cap(p.Params)])[:len(p.Params)]
				copied = append(copied, p)
			}
			want = append(want, copied)
		}
		s, err := Write(cards[:3])
		if clean, e := Write(want[:3]); s != clean || err != e {
			t.Errorf("R2: Write of lists with room behind: %q, %d, not %q, %d", s, err, clean, e)
		}
		if !reflect.DeepEqual(cards, want) || !reflect.DeepEqual(params[2], api.Attr{Name: "BEHIND", Value: "x"}) || !reflect.DeepEqual(props[2], api.Prop{Name: "BEHIND"}) {
			t.Errorf("R3: what was handed in was changed: %q, not %q", cards, want)
		}
	}
}

// R2: nothing is kept from call to call.
func TestNothingKept(t *testing.T) {
	l := [][]api.Prop{full(), of(prop("FN", "v", "P", "q;")), nil}
	want, _ := Write(l)
	read, _, _ := toldRead(want)
	for _, other := range []string{"x", card(), strings.Repeat(card(), 60), lines("BEGIN:VCARD", "VERSION:4.0"), "\xff", card(many("A:b", 41)...)} {
		cards, _, _ := Read(other)
		Write(cards)
		Write(make([][]api.Prop, 61))
		if s, err := Write(l); s != want || err != api.OK {
			t.Fatalf("R2: Write again: %q, %d, not %q", s, err, want)
		}
		readIs(t, want, 0, api.OK, read...)
	}
	l[1][0].Params[0] = api.Attr{}
	clear(l[0])
	readIs(t, want, 0, api.OK, read...)
}
