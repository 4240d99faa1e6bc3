package jid

import (
	"slices"
	"strings"
	"testing"

	"cardex/api"
)

// times is s, n times.
func times(s string, n int) string { return strings.Repeat(s, n) }

// domains holds what Domain answers of each s against name and wrong.
func domains(t *testing.T, name string, wrong api.Errno, l ...string) {
	t.Helper()
	for _, s := range l {
		if got, err := Domain(s); got != name || err != wrong {
			t.Errorf("P7.1: Domain(%q): %q, %d, not %q, %d", s, got, err, name, wrong)
		}
	}
}

// asTheyAre holds that each of l is a domain as it is.
func asTheyAre(t *testing.T, l ...string) {
	t.Helper()
	for _, s := range l {
		domains(t, s, api.OK, s, s+".")
	}
}

// parses holds what Parse answers of each s against j.
func parses(t *testing.T, j api.Jid, l ...string) {
	t.Helper()
	for _, s := range l {
		if got, err := Parse(s); got != j || err != api.OK {
			t.Errorf("P7.1: Parse(%q): %+v, %d, not %+v", s, got, err, j)
		}
	}
	if again, err := Parse(Text(j)); again != j || err != api.OK {
		t.Errorf("P7.1: the text of %+v is parsed as %+v, %d", j, again, err)
	}
}

// fails holds that neither Parse nor Bare tells anything of any s but the error wrong.
func fails(t *testing.T, wrong api.Errno, l ...string) {
	t.Helper()
	for _, s := range l {
		if got, err := Parse(s); got != (api.Jid{}) || err != wrong {
			t.Errorf("P7.1: Parse(%q): %+v, %d, not the error %d alone", s, got, err, wrong)
		}
		if got, err := Bare(s); got != "" || err != wrong {
			t.Errorf("P7.1: Bare(%q): %q, %d, not the error %d alone", s, got, err, wrong)
		}
	}
}

func TestOrdinaryDomains(t *testing.T) {
	asTheyAre(t, "a", "b.c", "example.org", "im.example.org", "localhost", "1.2.3.4", "0", "bücher.example", "中国", "αβγ.жук")
	for _, s := range []string{"א", "אב", "א.ב", "א1-2.ב", "א-ב", times("א", 50)} {
		domains(t, s, api.OK, s)
		domains(t, "", api.ErrBidi, s+".") // prep.Host asks for the way ahead of what is left out here
	}
	domains(t, "a", api.OK, "A", "a.", "A.", "\u00adA", "A\u200b.")
	domains(t, "a.b", api.OK, "A.B", "a.B.", "a\u00ad.\ufeffb", "a.b\u00ad.", "a.b.\u00ad")
	domains(t, "éöøþ.zz", api.OK, "ÉÖØÞ.ZZ")
	domains(t, "strasse.de", api.OK, "Straße.de", "STRASSE.DE", "straße.DE.")
}

func TestNoDomain(t *testing.T) {
	domains(t, "", api.ErrJid, "", "\u00ad", "\u00ad\u200b\ufeff")
	domains(t, "", api.ErrUtf, "\xff", "a\x80", "\xc0\x80.b", "a.\xed\xa0\x80", "a\x00", "\x1f.b", "\uffff", "..\xff", "_\xff", "אa\xff", "-\x01")
	domains(t, "", api.ErrChar, "a b", " ", "a ", "a_b", "a@b", "@", "a/b", "/", "a:1", "[1]", "a,b", "\t", "a\n", "×", "😀", "..\t", "-_-", ".._", times("a", 101)+"_", "אa_")
	domains(t, "", api.ErrBidi, "אa", "aא", "א.c", "א1", "1א", "א.", "אב.", "א..", "-א", ".א", "א-", "א.a.א", times("א", 51)+".")
}

func TestDots(t *testing.T) {
	domains(t, "a", api.OK, "a.")
	domains(t, "a.b.c", api.OK, "a.b.c", "a.b.c.")
	domains(t, "", api.ErrJid, ".", "..", "...", "a..", "a...", "a.b..", ".a", ".a.", "..a", "a..b", "a..b.", "a.b..c", "a...b", "a.\u00ad.b", ".\u00ad", "\u00ad.", "\u00ad.a", "a.\u00ad.", "א..ב")
}

func TestHyphens(t *testing.T) {
	asTheyAre(t, "a-b", "a--b", "a-b-c.d-e", "a.b-c", "a.b--c.d", "1-2")
	domains(t, "", api.ErrJid, "-", "--", "-.", "-..", "-a", "a-", "a-.", "-a-", "-a.b", "a-.b", "a.-b", "a.b-", "a.b-.", "a.-", "a.-.", "-.a", "a.-.b", "a.--.b", "a.-b.c", "a.b-.c", "a.b.-c", "a.b.c-", "a--", "--a", "\u00ad-a", "a-\u00ad", "a.\u00ad-b", "a-\u00ad.b", "א-.ב", "א.-ב")
}

func TestLengthOfADomain(t *testing.T) {
	for _, s := range []string{times("a", 99), times("a", 100), times("é", 50), times("é", 49) + "aa", times("中", 33) + "a", times("a.", 49) + "aa", "a" + times("-", 98) + "a"} {
		asTheyAre(t, s)
		domains(t, "", api.ErrJid, s+"..", "."+s)
	}
	domains(t, times("a", 100), api.OK, times("A", 100), times("A", 100)+".", times("a\u00ad", 100), times("A\u200b", 100)+".")
	domains(t, times("é", 50), api.OK, times("É", 50), times("É", 50)+".")
	domains(t, times("s", 100), api.OK, times("ß", 50), times("ß", 50)+".", times("S", 100)+".")
	domains(t, "", api.ErrJid, times("a", 101), times("a", 101)+".", times("A", 101), times("a", 102), times("a", 200), times("a", 4096), times("é", 50)+"a", times("é", 50)+"a.", "a"+times("É", 50), times("é", 51), times("中", 34), times("中", 33)+"aa", times("א", 51), times("ß", 51), times("ß", 50)+"s.", times("a.", 50)+"a", times("a.", 50)+"a.", times("a\u00ad", 101))
	domains(t, times("a.", 49)+"a", api.OK, times("a.", 50))
	domains(t, times("a.", 49)+"aa", api.OK, times("a.", 49)+"aa.")
}

func TestOrdinaryAddresses(t *testing.T) {
	parses(t, api.Jid{Domain: "b"}, "b", "B", "b.", "\u00adb")
	parses(t, api.Jid{Local: "a", Domain: "b"}, "a@b", "A@B", "a@b.", "a\u00ad@\u00adb")
	parses(t, api.Jid{Domain: "b", Resource: "c"}, "b/c", "B/c", "b./c", "b/\u00adc")
	parses(t, api.Jid{Domain: "b", Resource: "C"}, "b/C")
	parses(t, api.Jid{Local: "a", Domain: "b", Resource: "C d"}, "a@b/C d", "A@B./C d", "a@b/C\u200b d")
	parses(t, api.Jid{Local: "romeo.montague", Domain: "im.example.org", Resource: "At Home"}, "Romeo.Montague@IM.Example.Org/At Home")
	parses(t, api.Jid{Local: "éss", Domain: "strasse.de", Resource: "Éß"}, "Éß@Straße.DE./Éß")
	parses(t, api.Jid{Local: "אב", Domain: "א.ב", Resource: "א ב"}, "אב@א.ב/א ב")
	parses(t, api.Jid{Local: "-.a.-", Domain: "a-b.c", Resource: "-.-"}, "-.a.-@a-b.c/-.-")
}

// The first "/" counts, wherever a "@" stands, and ahead of it the first "@".
func TestMarks(t *testing.T) {
	parses(t, api.Jid{Domain: "b", Resource: "x@y"}, "b/x@y")
	parses(t, api.Jid{Domain: "b", Resource: "@"}, "b/@")
	parses(t, api.Jid{Domain: "b", Resource: "/"}, "b//")
	parses(t, api.Jid{Domain: "b", Resource: "/c"}, "b//c")
	parses(t, api.Jid{Domain: "b", Resource: "c/"}, "b/c/")
	parses(t, api.Jid{Domain: "b", Resource: "x@y/z"}, "b/x@y/z")
	parses(t, api.Jid{Domain: "b", Resource: "x/y@z"}, "b/x/y@z")
	parses(t, api.Jid{Local: "a", Domain: "b", Resource: "x@y/z@"}, "a@b/x@y/z@")
	parses(t, api.Jid{Local: "a", Domain: "b", Resource: "/@/"}, "a@b//@/")
	fails(t, api.ErrJid, "", "/", "@", "@/", "/@", "//", "@/@", "a@", "@b", "/c", "b/", "a@b/", "@b/c", "@b/", "a@/c", "a@/", "@/c", "/a@b", "/a@b/c", "//a", "a@/b@c", "/@b")
	fails(t, api.ErrChar, "a@@b", "@@b", "@@", "a@b@", "a@b@c", "a@b@c/d", "@a@b", "a@@b/c", "@@/")
}

func TestLengthOfALocalPart(t *testing.T) {
	for _, s := range []string{"a", times("a", 63), times("a", 64), times("é", 32), times("é", 31) + "aa", times("中", 21) + "a", times("😀", 16), times("א", 32)} {
		parses(t, api.Jid{Local: s, Domain: "b"}, s+"@b", s+"\u00ad@b.")
		parses(t, api.Jid{Local: s, Domain: "b", Resource: "c"}, s+"@b/c")
	}
	parses(t, api.Jid{Local: times("a", 64), Domain: "b"}, times("A", 64)+"@b", times("a\u00ad", 64)+"@b", times("\ufeff", 64)+times("A", 64)+"@b")
	parses(t, api.Jid{Local: times("é", 32), Domain: "b"}, times("É", 32)+"@b")
	parses(t, api.Jid{Local: times("s", 64), Domain: "b"}, times("ß", 32)+"@b", times("S", 64)+"@b")
	for _, s := range []string{"", "\u00ad", times("\u200b", 64), "\u00ad\ufeff\u2060", times("a", 65), times("A", 65), times("a", 66), times("a", 1000), times("é", 32) + "a", times("é", 33), times("中", 22), times("中", 21) + "aa", times("😀", 16) + "a", times("😀", 17), times("ß", 33), times("ß", 32) + "a", times("א", 33), times("a\u00ad", 65)} {
		fails(t, api.ErrJid, s+"@b", s+"@b.c/d")
	}
}

func TestLengthOfAResource(t *testing.T) {
	for _, s := range []string{"C", times("C", 63), times("C", 64), times("É", 32), times("ß", 32), times("É", 31) + " c", times("中", 21) + "c", times("😀", 16), times("א", 32), times(" ", 64), times("@", 64), times("/", 64)} {
		parses(t, api.Jid{Domain: "b", Resource: s}, "b/"+s, "b./\u00ad"+s)
		parses(t, api.Jid{Local: "a", Domain: "b", Resource: s}, "a@b/"+s)
	}
	parses(t, api.Jid{Domain: "b", Resource: times("C", 64)}, "b/"+times("C\u00ad", 64), "b/"+times("\ufeff", 64)+times("C", 64))
	for _, s := range []string{"", "\u00ad", times("\u200b", 64), "\u00ad\ufeff\u2060", times("C", 65), times("c", 66), times("c", 1000), times("É", 32) + "c", times("É", 33), times("中", 22), times("中", 21) + "cc", times("😀", 16) + "c", times("😀", 17), times("ß", 33), times("ß", 32) + "s", times("א", 33), times("C\u00ad", 65), times("/", 65)} {
		fails(t, api.ErrJid, "b/"+s, "a@b.c/"+s)
	}
}

// A domain in an address is one as Domain has it.
func TestDomainOfAnAddress(t *testing.T) {
	long := times("b", 100)
	parses(t, api.Jid{Local: "a", Domain: long, Resource: "c"}, "a@"+long+"/c", "a@"+long+"./c", "a@"+times("B", 100)+"./c")
	parses(t, api.Jid{Domain: long}, long, long+".")
	parses(t, api.Jid{Local: "a", Domain: times("s", 100)}, "a@"+times("ß", 50))
	parses(t, api.Jid{Local: times("a", 64), Domain: long, Resource: times("c", 64)}, times("a", 64)+"@"+long+"/"+times("c", 64))
	for _, s := range []string{"", "\u00ad", ".", "..", "b..", ".b", "b..c", "-b", "b-", "b.-c", "b-.c", "-", long + "b", long + "b.", times("é", 50) + "b"} {
		fails(t, api.ErrJid, s, "a@"+s, s+"/c", "a@"+s+"/c")
	}
	for _, s := range []string{"b_", "b c", "\t"} {
		fails(t, api.ErrChar, s, "a@"+s, s+"/c", "a@"+s+"/c")
	}
	for _, s := range []string{"אb", "אב.", "1א"} {
		fails(t, api.ErrBidi, s, "a@"+s, s+"/c", "a@"+s+"/c")
	}
	fails(t, api.ErrUtf, "\xff", "a@\xff", "\xff/c", "a@b\x00/c")
}

// Each part is wrong in a way of its own: the domain's error counts, then the local part's, then the resource's.
func TestWhichPartsErrorCounts(t *testing.T) {
	type row struct {
		part  string
		wrong api.Errno
	}
	locals := []row{{"a", 0}, {"\xff", api.ErrUtf}, {"a b", api.ErrChar}, {"אa", api.ErrBidi}, {"", api.ErrJid}, {"\u00ad", api.ErrJid}, {times("a", 65), api.ErrJid}}
	others := []row{{"b", 0}, {"\xff", api.ErrUtf}, {"\t", api.ErrChar}, {"אb", api.ErrBidi}, {"", api.ErrJid}, {"\u00ad", api.ErrJid}, {times("b", 101), api.ErrJid}}
	for _, local := range locals {
		for _, domain := range others {
			for _, resource := range others {
				s := local.part + "@" + domain.part + "/" + resource.part
				l := []api.Errno{domain.wrong, local.wrong, resource.wrong}
				at := slices.IndexFunc(l, func(wrong api.Errno) bool { return wrong != api.OK })
				if at < 0 {
					parses(t, api.Jid{Local: "a", Domain: "b", Resource: "b"}, s)
					continue
				}
				fails(t, l[at], s)
			}
		}
	}
}

// Within a part, prep's error counts ahead of ErrJid.
func TestWhichErrorOfAPartCounts(t *testing.T) {
	long := times("x", 101)
	fails(t, api.ErrUtf, long+"\xff", long+"\xff@b", "b/"+long+"\xff", "..\x01")
	fails(t, api.ErrChar, long+"_", long+" @b", "b/"+long+"\t", "-_", long+"\u00a0@b", "b/\u00a0"+long)
	fails(t, api.ErrBidi, long+"א", long+"א@b", "b/"+long+"א", times("א", 60)+"1@b", "b/"+times("א", 60)+"1", "-א.")
	fails(t, api.ErrJid, long, long+"@b", "b/"+long)
}

func TestText(t *testing.T) {
	for _, r := range []struct {
		local, domain, resource, text string
	}{
		{"", "", "", ""},
		{"a", "", "", "a@"},
		{"", "b", "", "b"},
		{"", "", "c", "/c"},
		{"a", "b", "", "a@b"},
		{"a", "", "c", "a@/c"},
		{"", "b", "c", "b/c"},
		{"a", "b", "c", "a@b/c"},
		{"A", "B.", "C D", "A@B./C D"}, // it is told as it stands, be it an address or not
		{"a@", "@/", "/", "a@@@///"},
		{"\xff", "\x00", "\u00ad", "\xff@\x00/\u00ad"},
		{times("a", 500), times("b", 500), times("c", 500), times("a", 500) + "@" + times("b", 500) + "/" + times("c", 500)},
	} {
		j := api.Jid{Local: r.local, Domain: r.domain, Resource: r.resource}
		if got := Text(j); got != r.text {
			t.Errorf("P7.1: Text(%+v): %q, not %q", j, got, r.text)
		}
	}
}

func TestBare(t *testing.T) {
	for _, r := range []struct{ s, bare string }{
		{"A@B", "a@b"}, {"a@b", "a@b"}, {"b", "b"}, {"B.", "b"}, {"a@b.", "a@b"}, {"\u00ada@b\u00ad", "a@b"},
		{"ß@É.ß.", "ss@é.ss"}, {"אב@א", "אב@א"}, {times("A", 64) + "@" + times("B", 100) + ".", times("a", 64) + "@" + times("b", 100)},
	} {
		for _, s := range []string{r.s, r.bare} {
			if got, err := Bare(s); got != r.bare || err != api.OK {
				t.Errorf("P7.1: Bare(%q): %q, %d, not %q", s, got, err, r.bare)
			}
		}
		for _, s := range []string{r.s + "/c", r.bare + "/C d", r.bare + "/@", r.bare + "//", r.bare + "/", r.bare + "/\u00ad"} {
			if got, err := Bare(s); got != "" || err != api.ErrJid {
				t.Errorf("P7.1: Bare(%q): %q, %d, though it has a resource", s, got, err)
			}
		}
	}
	for _, s := range []string{"\xff", "a@\xff", "\xff@b", "b/\xff", "a b@c", "a@b c", "b/\t", "אa@b", "a@אb", "b/אa", "", "@", "a@", "@b", "b/" + times("c", 65)} {
		_, wrong := Parse(s)
		if got, err := Bare(s); got != "" || err != wrong || wrong == api.OK {
			t.Errorf("P7.1: Bare(%q): %q, %d, not Parse's error %d", s, got, err, wrong)
		}
	}
}

func TestLess(t *testing.T) {
	rising := []string{
		"", "@", "a@", "é@", // no domain is below all others
		"a@\x00",
		"@@", "B@@", // what is behind the first "@": "@"
		"@@@",
		"b@B", // names are told as they stand: a capital is below all small ones
		"@a", "B@a", "a", "a@a", "aa@a", "b@a", "é@a", "\xff@a",
		"a@a.b", // "a" is the beginning of it
		"a/c", "a@a/c",
		"a@a@a", "b@a@a",
		"a@a@b",
		"a@aa", "aa", "z@aa",
		"@b", "a@b", "b", "z@b",
		"a@b.c",
		"b/a",
		"b/a@c", "c", // a "/" parts nothing
		"a@z", "z",
		"a@\x7f",
		"a@\u0080", "\u0080",
		"a@é", "é",
		"a@中", "a@😀",
		"a@\xff", "\xff", "\xff@\xff",
		"\xff\xff",
	}
	for i, a := range rising {
		for j, b := range rising {
			if got := Less(a, b); got != (i < j) {
				t.Errorf("P7.1: Less(%q, %q): %v", a, b, got)
			}
		}
	}
}
