package vcard

import (
	"strings"
	"testing"

	"cardex/api"
)

// wordSigns are what a word is made of.
const wordSigns = "ABCDEFGHIJKLMNOPQRSTUVWXYZabcdefghijklmnopqrstuvwxyz0123456789-"

// wordHolds holds that s is a word, at each place where one stands.
func wordHolds(t *testing.T, s string) {
	t.Helper()
	lineIs(t, s+":a", prop(capitals(s), "a"))
	lineIs(t, s+";b=c:a", prop(capitals(s), "a", "B", "c"))
	lineIs(t, "N;"+s+"=c:a", prop("N", "a", capitals(s), "c"))
	lineIs(t, `N;b=c;`+s+`="d":a`, prop("N", "a", "B", "c", capitals(s), "d"))
	grouped := prop("N", "a")
	grouped.Group = s
	lineIs(t, s+".n:a", grouped)
	grouped.Name, grouped.Group = capitals(s), "g"
	lineIs(t, "g."+s+":a", grouped)
}

// wordFails holds that s, which has no mark in it, is no word, at any place where one stands.
func wordFails(t *testing.T, s string) {
	t.Helper()
	for _, line := range []string{s + ":a", s + ";b=c:a", "g." + s + ":a", s + ".n:a", "N;" + s + "=c:a", "N;b=c;" + s + `="d":a`, "N;" + s + "=c;b=d:a"} {
		if line[0] != ' ' && line[0] != '\t' { // else it would go on with the line ahead
			lineWrong(t, line)
		}
	}
}

// Words of each sign that may be in one, alone, and ahead of, behind and between others.
func TestSignsOfWords(t *testing.T) {
	for _, c := range wordSigns {
		for _, s := range []string{string(c), "x" + string(c), string(c) + "x", "x" + string(c) + "x", "-" + string(c) + "9", strings.Repeat(string(c), 200)} {
			wordHolds(t, s)
		}
	}
	wordHolds(t, wordSigns)
	wordHolds(t, "--")
	wordHolds(t, "007")
}

// Each other sign of one byte, and some of more, in no word.
func TestOtherSigns(t *testing.T) {
	for c := rune(32); c < 128; c++ {
		if strings.ContainsRune(wordSigns, c) || strings.ContainsRune(`.:;=`, c) {
			continue // these make other lines: see TestMarks
		}
		for _, s := range []string{string(c), "x" + string(c), string(c) + "x", "x" + string(c) + "x"} {
			wordFails(t, s)
		}
	}
	for _, c := range "\té\u07c0\u212a中😀\u017f\uff21\uff10\u0660\u00ad\u200d\ufeff\u0301" {
		for _, s := range []string{string(c), "x" + string(c), string(c) + "x", "x" + string(c) + "x"} {
			wordFails(t, s)
		}
	}
	for c := rune(128); c < 0x3000; c++ {
		if _, ok := property(string(c) + ":a"); ok {
			t.Fatalf("P11.1: a word of %q", c)
		}
		if _, ok := property("N" + string(c) + ":a"); ok {
			t.Fatalf("P11.1: a word that ends with %q", c)
		}
	}
}

// A mark where a word should be, or too many of them.
func TestMarks(t *testing.T) {
	for _, line := range []string{"", ".", "..", ":", ";", "=", ",", `"`, "FN", "FN;", "FN.", "FN=", "g.", "g.:a", ".:a", ".FN:a", "..FN:a", "g..FN:a", "g.h.FN:a", "g.FN.:a", "FN.:a", ".g.FN:a", ":a", "::", ";:a", ";b=c:a", "g.;b=c:a", "FN;:a", "FN;;:a", "FN;=:a", "FN;=c:a", "FN;b=c;:a", "FN;b=c;;d=e:a", "FN;b=c;=d:a", "FN;b:a", "FN;b;c=d:a", "FN;b=c;d:a", "FN;b=c", "FN;b=", "FN;b=c;", "FN;b.c=d:a", "FN;.b=c:a", "FN;b.=c:a", "FN=b:a", "=FN:a", "FN=:a", "FN,:a", "FN;b,c=d:a", "FN b:a", "FN :a", "g .FN:a", "g. FN:a", "FN; b=c:a", "FN;b =c:a", "FN;b=c ;", "\\FN:a", "FN\\;b=c:a"} {
		lineWrong(t, line)
	}
}

// A Group and none; as it stands, while the Name is in capitals.
func TestGroupsAndNames(t *testing.T) {
	for _, group := range []string{"g", "G", "item1", "Item-1", "-", "0", "FN", "fn", "BEGIN", "End", "version"} {
		for _, name := range []string{"fn", "FN", "Fn", "fN", "x-aB9", "-", "0", "end"} {
			p := prop(capitals(name), "Va:lue")
			lineIs(t, name+":Va:lue", p)
			p.Group = group
			lineIs(t, group+"."+name+":Va:lue", p)
			p.Params = append(p.Params, api.Attr{Name: "TYPE", Value: "Home.x"})
			lineIs(t, group+"."+name+";Type=Home.x:Va:lue", p)
		}
	}
	// A "." behind the Value's ":" or in a parameter is none of a Group's.
	lineIs(t, "a:b.c:d", prop("A", "b.c:d"))
	lineIs(t, "a;b=c.d:e", prop("A", "e", "B", "c.d"))
	lineIs(t, "a;b=c.d=:e", prop("A", "e", "B", "c.d="))
}

// Parameters: none, one, several, and alike ones, each in its place.
func TestParameters(t *testing.T) {
	lineIs(t, "a:x", prop("A", "x"))
	lineIs(t, "a;b=c:x", prop("A", "x", "B", "c"))
	lineIs(t, "a;b=c;d=e:x", prop("A", "x", "B", "c", "D", "e"))
	lineIs(t, "a;d=e;b=c:x", prop("A", "x", "D", "e", "B", "c"))
	lineIs(t, "a;b=c;b=c:x", prop("A", "x", "B", "c", "B", "c"))
	lineIs(t, "a;b=c;B=C;b=d:x", prop("A", "x", "B", "c", "B", "C", "B", "d"))
	lineIs(t, "a;a=a:a", prop("A", "a", "A", "a"))
	lineIs(t, "a;type=Home;tYPE=WORK:x", prop("A", "x", "TYPE", "Home", "TYPE", "WORK"))
	var all []string
	for range 300 {
		all = append(all, "P", "q")
	}
	lineIs(t, "a"+strings.Repeat(";p=q", 300)+":x", prop("A", "x", all...))
}

// Values of parameters, between quotes and without.
func TestValuesOfParameters(t *testing.T) {
	for _, value := range []string{"", "a", "aB", "=", "a=b", "=a", "a=", "==", " ", " a ", "a b", "\t", ".", "g.a", "'", "a'b'", `\`, `\n`, "^n", "é", "日本", "😀", "-", "?", "\u00a0", "\ufeff", strings.Repeat("v", 1_000)} {
		lineIs(t, "A;B="+value+":x", prop("A", "x", "B", value))
		lineIs(t, `A;B="`+value+`":x`, prop("A", "x", "B", value))
		lineIs(t, "A;B="+value+`;C="`+value+`";D=`+value+":"+value, prop("A", value, "B", value, "C", value, "D", value))
	}
	for _, value := range []string{";", ":", ",", "a;b", "a:b", "a,b", ";;", ";b=c", ":x", ";b=c:x", ",,", "a,b;c:d", " ;", "é:é", "BEGIN:VCARD"} {
		lineIs(t, `A;B="`+value+`":x`, prop("A", "x", "B", value))
		lineIs(t, `A;B="`+value+`";C=d;E="`+value+`":`+value, prop("A", value, "B", value, "C", "d", "E", value))
	}
	// Without quotes a mark ends the Value: what is behind it is read as it stands, or is wrong.
	lineWrong(t, "A;B=a,b:x")
	lineWrong(t, "A;B=,:x")
	lineWrong(t, `A;B="a",b:x`)
	lineWrong(t, `A;B="a","b":x`)
	lineWrong(t, "A;B=a;b:x")
	lineWrong(t, "A;B=;:x")
	lineIs(t, "A;B=a:b:x", prop("A", "b:x", "B", "a"))
	lineIs(t, "A;B=::x", prop("A", ":x", "B", ""))
	lineIs(t, "A;B=a;c=d:x", prop("A", "x", "B", "a", "C", "d"))
}

// Quotes that are not closed, that stand within, or that have something behind them.
func TestQuotes(t *testing.T) {
	for _, line := range []string{`A;B=":x`, `A;B="a:x`, `A;B="`, `A;B="a`, `A;B=a":x`, `A;B=a"b:x`, `A;B=a"b":x`, `A;B=a"":x`, `A;B= "a":x`, `A;B="a"b:x`, `A;B="a" :x`, `A;B="a" ;C=d:x`, `A;B="a"":x`, `A;B="""":x`, `A;B=""a"":x`, `A;B="a""b":x`, `A;B="a"=b:x`, `A;B="a"`, `A;B="a";`, `A;B="a".:x`, `A;B="a"é:x`, `A;B="a\"b":x`, `A;"B"=a:x`, `A;B"=a":x`, `"A":x`, `A":x`, `"A;B=a:x"`, `A;B="a;C="b":x`} {
		lineWrong(t, line)
	}
	lineIs(t, `A;B="";C="":x`, prop("A", "x", "B", "", "C", ""))
	lineIs(t, `A;B=";C=":x`, prop("A", "x", "B", ";C="))
	lineIs(t, `A;B="a:x";C=":":x"`, prop("A", `x"`, "B", "a:x", "C", ":"))
	lineIs(t, `A;B=:"x"`, prop("A", `"x"`, "B", ""))
	lineIs(t, `A;B="a":"x`, prop("A", `"x`, "B", "a"))
}

// Values: all that is behind the first ":" that is none of a parameter's, as it stands.
func TestValues(t *testing.T) {
	for _, value := range []string{"", ":", "::", "a:b", ";", "a;b=c:d", ",", "a,b", `"`, `"a"`, `a"b`, `""`, "=", ".", "g.a:b", " ", "  a  ", "\t", "\ta\t", "a b", `\`, `\n`, `\,`, `\:`, "é", "日本語", "😀", "\u00a0", "\u2028", "\ufeff", "\ufffd", "\x7f", "Aa", "VCARD", "END:VCARD", "BEGIN:VCARD", "\U0010ffff", strings.Repeat("é:", 1_000)} {
		lineIs(t, "FN:"+value, prop("FN", value))
		lineIs(t, "fn;b=c:"+value, prop("FN", value, "B", "c"))
		lineIs(t, `fn;b=":":`+value, prop("FN", value, "B", ":"))
		grouped := prop("FN", value)
		grouped.Group = "g"
		lineIs(t, "g.fn:"+value, grouped)
	}
}
