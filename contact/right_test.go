package contact

import (
	"slices"
	"strings"
	"testing"

	"cardex/api"
)

// full is a contact that has something everywhere.
func full() api.Contact {
	return api.Contact{Name: "a,b", Family: "f;", Given: `g\`, Nick: "n", Jid: `a;,\b@c`, Email: "e", Tel: "t", Note: "x\ny", Uid: "u", Groups: []string{"a,b", "c"}, Other: []api.Prop{prop("FN", "z"), in("g", prop("TEL", "1", "A", "b"))}}
}

// right holds that there may be c.
func right(t *testing.T, c api.Contact) {
	t.Helper()
	if !Right(c) {
		t.Fatalf("P12.1: Right(%.800q): false", c)
	}
	heldContact(t, c)
}

// wrong holds that there may not be c, and that it has no properties.
func wrong(t *testing.T, c api.Contact) {
	t.Helper()
	if Right(c) {
		t.Fatalf("P12.1: Right(%.800q): true", c)
	}
	if l, err := Props(c); l != nil || err != api.ErrValue {
		t.Fatalf("P12.1: Props(%.800q): %.800q, %d", c, l, err)
	}
	heldContact(t, c)
}

// rights holds that there may be contacts which set made of right ones, all else there or not.
func rights(t *testing.T, set func(c *api.Contact)) {
	t.Helper()
	for _, c := range []api.Contact{{Name: "a"}, full()} {
		set(&c)
		right(t, c)
	}
}

// wrongs holds that there may not be contacts which set made of right ones, all else there or not.
func wrongs(t *testing.T, set func(c *api.Contact)) {
	t.Helper()
	for _, c := range []api.Contact{{Name: "a"}, full()} {
		set(&c)
		wrong(t, c)
	}
}

// lines are what of a contact is one line, but for its Name: which may not be "".
func lines() []func(c *api.Contact, s string) {
	l := fields()
	return []func(c *api.Contact, s string){l[1], l[2], l[3], l[5], l[6], l[8]}
}

func TestNames(t *testing.T) {
	wrong(t, api.Contact{})
	wrongs(t, func(c *api.Contact) { c.Name = "" })
	for _, set := range lines() {
		c := api.Contact{}
		set(&c, "a")
		wrong(t, c)
		rights(t, func(c *api.Contact) { set(c, "") })
	}
	right(t, api.Contact{Name: "a"})
	right(t, api.Contact{Name: " "})
	right(t, full())
}

// noText are bytes that are no text, and texts that have signs below the blank.
var noText = []string{"\xff", "\x80", "\xc3", "\xc0\x80", "\xed\xa0\x80", "\xf4\x90\x80\x80", "\ufffe", "\uffff", "\x00", "\x01", "\x08", "\x0b", "\x0c", "\x0e", "\x1f"}

// Each line: its length is of characters, of however many bytes; no sign below the blank.
func TestLines(t *testing.T) {
	for _, set := range append(lines(), fields()[0]) {
		for _, sign := range []string{"x", "é", "日", "😀", " ", ",", ";", `\`, "\x7f", "\u0085", "\ufffd", "\u00ad"} {
			rights(t, func(c *api.Contact) { set(c, sign) })
			rights(t, func(c *api.Contact) { set(c, strings.Repeat(sign, 99)) })
			rights(t, func(c *api.Contact) { set(c, strings.Repeat(sign, 100)) })
			wrongs(t, func(c *api.Contact) { set(c, strings.Repeat(sign, 101)) })
			wrongs(t, func(c *api.Contact) { set(c, strings.Repeat("é", 100)+sign) })
		}
		for _, s := range append([]string{"\t", "\n", "\r", "\r\n"}, noText...) {
			wrongs(t, func(c *api.Contact) { set(c, s) })
			wrongs(t, func(c *api.Contact) { set(c, "a"+s) })
			wrongs(t, func(c *api.Contact) { set(c, s+"é") })
			wrongs(t, func(c *api.Contact) { set(c, strings.Repeat("a", 99)+s) })
		}
	}
}

// A Note may have 9 and 10 in it, but not 13.
func TestNotes(t *testing.T) {
	set := func(s string) func(c *api.Contact) { return func(c *api.Contact) { c.Note = s } }
	for _, sign := range []string{"x", "é", "日", "😀", "\n", "\t", ",", `\`, "\x7f", "a\n"} {
		rights(t, set(sign))
		rights(t, set("a"+sign+"b"))
		rights(t, set(strings.Repeat(sign, 500/len([]rune(sign)))))
		wrongs(t, set(strings.Repeat(sign, 500)+"x"))
	}
	rights(t, set(""))
	rights(t, set(strings.Repeat("x", 499)))
	wrongs(t, set(strings.Repeat("x", 501)))
	wrongs(t, set(strings.Repeat("é", 501)))
	wrongs(t, set(strings.Repeat("\n", 501)))
	for _, s := range append([]string{"\r", "\r\n"}, noText...) {
		wrongs(t, set(s))
		wrongs(t, set("a"+s))
		wrongs(t, set(s+"é"))
		wrongs(t, set(strings.Repeat("a\n", 200)+s))
	}
}

func TestJids(t *testing.T) {
	host, local := strings.Repeat("h", 100), strings.Repeat("l", 64)
	for _, s := range []string{"", "b", "a@b", "a@b.c", `a;,\b@c`, "ss@b", local + "@" + host, "1@1", "é@é"} {
		rights(t, func(c *api.Contact) { c.Jid = s })
	}
	for _, s := range []string{"A@b", "a@B", "B", "ß@b", "a@ß", "a@b.", "É@b", "\u00ada@b", "a@b/c", "a@b/", "b/c", "/", "@", "a@", "@b", " ", "a b@c", "a@b_", "a@b@c", "a@\u05d01", "\u05d0a@b", "\xff", "a@\xff", "a@b\n", "a@b\x00", "a@-b", "a@b..c", "xmpp:a@b", "l" + local + "@b", host + "h", local + "@" + host + "h"} {
		wrongs(t, func(c *api.Contact) { c.Jid = s })
	}
}

// Groups: so many as may be, rising, each a line that is not "".
func TestGroups(t *testing.T) {
	set := func(l ...string) func(c *api.Contact) { return func(c *api.Contact) { c.Groups = l } }
	eight := []string{"1", "2", "3", "4", "5", "6", "7", "8"}
	for n := range 9 {
		rights(t, set(eight[:n]...))
	}
	wrongs(t, set(append(slices.Clone(eight), "9")...))
	wrongs(t, set(append([]string{"0"}, eight...)...))
	wrongs(t, set(slices.Repeat(eight, 1_000)...))
	for _, l := range [][]string{{}, {"a"}, {"a", "b"}, {"A", "a"}, {"a", "aa"}, {"a", "ab", "b"}, {"Z", "a"}, {"a", "é"}, {"z", "é", "日", "😀"}, {" ", "!"}, {"a", "a "}, {"\ufffd", "\U00010000"}} {
		rights(t, set(l...))
	}
	for _, l := range [][]string{{""}, {"", "a"}, {"a", ""}, {"", ""}, {"a", "a"}, {"b", "a"}, {"a", "b", "a"}, {"a", "b", "b"}, {"a", "a", "b"}, {"b", "a", "c"}, {"a", "c", "b"}, {"a", "A"}, {"aa", "a"}, {"é", "z"}, {"a", "", "b"}} {
		wrongs(t, set(l...))
	}
	for i := range 7 {
		turned := slices.Clone(eight)
		turned[i], turned[i+1] = turned[i+1], turned[i]
		wrongs(t, set(turned...))
		turned = slices.Clone(eight)
		turned[i+1] = turned[i]
		wrongs(t, set(turned...))
	}
	for _, sign := range []string{"x", "é", "😀"} {
		rights(t, set(strings.Repeat(sign, 100)))
		rights(t, set("a", strings.Repeat(sign, 100)))
		wrongs(t, set(strings.Repeat(sign, 101)))
		wrongs(t, set("a", strings.Repeat(sign, 101)))
		wrongs(t, set(strings.Repeat(sign, 101), "\U0010fffd"))
		wrongs(t, set("a", strings.Repeat(sign, 101), "\U0010fffd"))
	}
	for _, s := range append([]string{"\t", "\n", "\r"}, noText...) {
		wrongs(t, set(s))
		wrongs(t, set("a"+s))
		wrongs(t, set("a", "a"+s, "b"))
		wrongs(t, set("a", "b", "c"+s))
	}
}

// Other: so many as may be, each of which vcard.Write writes, and not too much in all.
func TestOthers(t *testing.T) {
	set := func(l ...api.Prop) func(c *api.Contact) { return func(c *api.Contact) { c.Other = l } }
	x := prop("X", "y")
	for _, n := range []int{0, 1, 2, 39, 40} {
		rights(t, set(slices.Repeat([]api.Prop{x}, n)...))
	}
	wrongs(t, set(slices.Repeat([]api.Prop{x}, 41)...))
	wrongs(t, set(slices.Repeat([]api.Prop{x}, 1_000)...))
	rights(t, set([]api.Prop{}...))
	for _, p := range []api.Prop{prop("FN", "a"), prop("FN", ""), prop("END", "x"), prop("END", "VCARD", "A", "b"), in("g", prop("END", "VCARD")), prop("X-9", "\t \"é", "A", "", "A", ";:,"), in("G-1", prop("N", `\x`)), prop("IMPP", "xmpp:"), prop("0", ""), prop("-", "😀")} {
		rights(t, set(p))
		rights(t, set(x, p))
		rights(t, set(append(slices.Repeat([]api.Prop{x}, 39), p)...))
	}
	for _, p := range []api.Prop{{}, prop("", "y"), prop("x", "y"), prop("Fn", "y"), prop("X Y", "y"), prop("X:", "y"), prop("X;A=b", "y"), prop("X.Y", "y"), prop("É", "y"), prop("X\n", "y"),
		prop("BEGIN", "y"), prop("BEGIN", "VCARD"), prop("VERSION", "4.0"), prop("VERSION", "y", "A", "b"), in("g", prop("BEGIN", "y")), prop("END", "VCARD"), prop("END", "vCard"),
		in(".", x), in("g.h", x), in("é", x), in("g ", x), in("\r\n", x),
		prop("X", "y\n"), prop("X", "\r"), prop("X", "\r\nEND:VCARD"), prop("X", "\x00"), prop("X", "\x0b"), prop("X", "\xff"), prop("X", "\uffff"),
		prop("X", "y", "a", "b"), prop("X", "y", "", "b"), prop("X", "y", "A=", "b"), prop("X", "y", "A B", "b"), prop("X", "y", "A", "\""), prop("X", "y", "A", "\n"), prop("X", "y", "A", "\xff"), prop("X", "y", "A", "b", "c", "d")} {
		wrongs(t, set(p))
		wrongs(t, set(x, p))
		wrongs(t, set(p, x))
		wrongs(t, set(append(slices.Repeat([]api.Prop{x}, 39), p)...))
	}
}

// Other that is too much: what is written may have MaxBytes bytes, the lines of the card and the rows' ends among them.
func TestTooMuchOther(t *testing.T) {
	great := func(n int) func(c *api.Contact) {
		return func(c *api.Contact) { c.Other = []api.Prop{prop("X", strings.Repeat("y", n))} }
	}
	// BEGIN:VCARD, VERSION:4.0 and END:VCARD, with their ends, are 37 bytes; a row has 75 with a blank but for the first one, and 2 of its end.
	// 259 rows of 77 bytes are 19,943, and 20 are left: 17 behind the blank of one row more.
	fits := 75 - len("X:") + 258*74 + 17
	rights(t, great(fits))
	wrongs(t, great(fits+1))
	wrongs(t, great(20_000))
	half := prop("X", strings.Repeat("y", fits/2))
	rights(t, func(c *api.Contact) { c.Other = []api.Prop{half} })
	wrongs(t, func(c *api.Contact) { c.Other = []api.Prop{half, half, half} })
	some := prop("X", strings.Repeat("é", 300))
	rights(t, func(c *api.Contact) { c.Other = slices.Repeat([]api.Prop{some}, 30) })
	wrongs(t, func(c *api.Contact) { c.Other = slices.Repeat([]api.Prop{some}, 40) })
}
