package prep

import (
	"strings"
	"testing"

	"cardex/api"
)

// answer is what a call answers.
type answer struct {
	s   string
	err api.Errno
}

var (
	noText = answer{"", api.ErrUtf}
	noChar = answer{"", api.ErrChar}
	noWay  = answer{"", api.ErrBidi}
)

// is what a call keeps as s.
func is(s string) answer { return answer{s, api.OK} }

// want holds what the three calls answer of s against node, host and resource.
func want(t *testing.T, s string, node, host, resource answer) {
	t.Helper()
	for i, answers := range []answer{node, host, resource} {
		x := calls()[i]
		if got, err := x.does(s); (answer{got, err}) != answers {
			t.Errorf("P6.1: %s(%q): %q, %d, not %q, %d", x.name, s, got, err, answers.s, answers.err)
		}
	}
}

// alike holds what all three calls answer of s against one answer.
func alike(t *testing.T, s string, all answer) {
	t.Helper()
	want(t, s, all, all, all)
}

func TestOrdinaryNames(t *testing.T) {
	want(t, "Ab", is("ab"), is("ab"), is("Ab"))
	want(t, "Romeo.Montague-7", is("romeo.montague-7"), is("romeo.montague-7"), is("Romeo.Montague-7"))
	want(t, "STRASSE", is("strasse"), is("strasse"), is("STRASSE"))
	want(t, "Straße", is("strasse"), is("strasse"), is("Straße"))
	want(t, "At Home", noChar, noChar, is("At Home"))
	want(t, "ÀÉÖØÞ", is("àéöøþ"), is("àéöøþ"), is("ÀÉÖØÞ"))
	for _, s := range []string{"", "a", "example.org", "a-b.c9", "àöøþ", "中国", "אב", "א1-2.ב", "αβγ", "жук", "\u00ff", "ĀĂ"} {
		alike(t, s, is(s))
	}
}

func TestNoText(t *testing.T) {
	for _, s := range []string{"\xff", "\x80", "\xc0\x80", "\xe2\x82", "\xed\xa0\x80", "\xf4\x90\x80\x80", "\x00", "\x08", "\x0b", "\x0c", "\x0e", "\x1f", "\ufffe", "\uffff"} {
		for _, around := range []string{"", "a", "A", " ", "@", "\t", "\u00a0", "\u00ad", "א", "aא"} {
			alike(t, around+s, noText)
			alike(t, s+around, noText)
			alike(t, around+s+around, noText)
		}
	}
}

// What is Gone is left out wherever it stands; its neighbours are not.
func TestGone(t *testing.T) {
	all := ""
	for _, r := range gones {
		for c := r[0]; c <= r[1]; c++ {
			s := string(c)
			all += s
			alike(t, s, is(""))
			alike(t, s+s, is(""))
			want(t, s+"Ab", is("ab"), is("ab"), is("Ab"))
			want(t, "A"+s+"b", is("ab"), is("ab"), is("Ab"))
			want(t, "Ab"+s, is("ab"), is("ab"), is("Ab"))
			want(t, s+"A"+s+s+"b"+s, is("ab"), is("ab"), is("Ab"))
			want(t, s+"ß"+s, is("ss"), is("ss"), is("ß"))
			want(t, s+"\t", noChar, noChar, noChar)
		}
	}
	alike(t, all, is(""))
	want(t, all+"A"+all+"ß"+all, is("ass"), is("ass"), is("Aß"))
	for _, c := range []rune{172, 174, 846, 848, 6_149, 6_151, 8_206, 8_289, 65_023, 65_040, 65_278, 65_280} {
		s := string(c)
		want(t, s, is(s), noChar, is(s))
		want(t, "a"+s+"b", is("a"+s+"b"), noChar, is("a"+s+"b"))
	}
	alike(t, "\u200a", noChar) // 8,202 and 8,287 are Banned
	alike(t, "\u205f", noChar)
}

// What is Banned stands in no name; its neighbours may.
func TestBanned(t *testing.T) {
	for _, c := range []rune{9, 10, 13, 127, 128, 159, 160, 5_760, 8_192, 8_202, 8_232, 8_239, 8_287, 12_288, 57_344, 63_743, 65_533, 917_504, 917_631, 983_040, 1_114_111} {
		s := string(c)
		for _, name := range []string{s, s + "a", "a" + s, "a" + s + "b", "\u00ad" + s, s + "\u00ad"} {
			alike(t, name, noChar)
		}
	}
	for _, c := range []rune{126, 161, 5_759, 5_761, 8_191, 8_231, 8_240, 8_286, 12_287, 12_289, 63_744, 65_532, 65_536, 917_503, 917_632, 983_039} {
		s := string(c)
		want(t, s, is(s), noChar, is(s))
		want(t, "a"+s+"b", is("a"+s+"b"), noChar, is("a"+s+"b"))
	}
	want(t, " ", noChar, noChar, is(" ")) // 32, above the first of what is Banned
}

// Of two errors the one that is named first counts.
func TestWhichErrorCounts(t *testing.T) {
	alike(t, "\t\xff", noText)
	alike(t, "אa\xff", noText)
	alike(t, "אa\t\x00", noText)
	alike(t, "אa\t", noChar)
	alike(t, "\tאa", noChar)
	alike(t, "1א\u00a0", noChar)
	alike(t, "1\u00a0א", noChar)
	want(t, "א a", noChar, noChar, noWay)
	want(t, "א@a", noChar, noChar, noWay)
	want(t, "א_a", noWay, noChar, noWay)
	want(t, "א_1", noWay, noChar, noWay)
	alike(t, "אa", noWay)
}

func TestTheWay(t *testing.T) {
	for _, r := range lefts {
		for _, c := range r {
			s := string(c)
			alike(t, s, is(s))
			alike(t, s+s, is(s+s))
			alike(t, s+"1", noWay)
			alike(t, "1"+s, noWay)
			alike(t, "1"+s+"2", noWay)
			alike(t, "-"+s+".", noWay)
			alike(t, s+"1"+s, is(s+"1"+s))
			alike(t, s+"1"+s+"2"+s, is(s+"1"+s+"2"+s))
			alike(t, s+"a", noWay)
			alike(t, "a"+s, noWay)
			alike(t, "a"+s+"b", noWay)
			alike(t, s+"a"+s, noWay)
			alike(t, s+"A"+s, noWay)
			alike(t, s+"ß"+s, noWay)
			alike(t, s+"中"+s, noWay)
			alike(t, s+"\u00ad", is(s))
			alike(t, "\u00ad"+s, is(s))
			alike(t, "\u200b"+s+"\ufeff", is(s))
			alike(t, "\u00ad1"+s, noWay)
			alike(t, s+"1\u00ad", noWay)
			want(t, s+"_"+s, is(s+"_"+s), noChar, is(s+"_"+s))
			want(t, s+"×"+s, is(s+"×"+s), noChar, is(s+"×"+s))
			want(t, s+" "+s, noChar, noChar, is(s+" "+s))
		}
	}
	for _, r := range letters {
		for _, c := range r {
			alike(t, "א"+string(c)+"ב", noWay)
		}
	}
	for _, c := range []rune{1_423, 1_792, 64_284, 64_336} { // neither letters nor written from right to left
		s := string(c)
		want(t, "1"+s, is("1"+s), noChar, is("1"+s))
		want(t, "a"+s+"b", is("a"+s+"b"), noChar, is("a"+s+"b"))
		want(t, "א"+s+"ב", is("א"+s+"ב"), noChar, is("א"+s+"ב"))
		want(t, "א"+s, noWay, noChar, noWay)
	}
}

func TestNode(t *testing.T) {
	for c := rune(33); c < 127; c++ {
		s := string(c)
		switch {
		case strings.ContainsRune(`"&'/:<>@`, c):
			nodeIs(t, s, noChar)
			nodeIs(t, "a"+s, noChar)
			nodeIs(t, s+"a", noChar)
			nodeIs(t, "a"+s+"b", noChar)
		case c >= 'A' && c <= 'Z':
			nodeIs(t, s, is(strings.ToLower(s)))
		default:
			nodeIs(t, s, is(s))
		}
	}
	nodeIs(t, " ", noChar)
	nodeIs(t, "a b", noChar)
	for _, r := range [][2]rune{{64, 0}, {65, 97}, {90, 122}, {91, 91}, {96, 96}, {97, 97}, {122, 122}, {123, 123}, {191, 191}, {192, 224}, {214, 246}, {215, 215}, {216, 248}, {222, 254}, {224, 224}, {246, 246}, {247, 247}, {248, 248}, {254, 254}, {255, 255}, {256, 256}, {913, 913}, {1_040, 1_040}} {
		if r[1] == 0 {
			nodeIs(t, string(r[0]), noChar)
			continue
		}
		nodeIs(t, string(r[0]), is(string(r[1])))
		nodeIs(t, "x"+string(r[0])+"Y", is("x"+string(r[1])+"y"))
	}
	nodeIs(t, "ß", is("ss"))
	nodeIs(t, "ßß", is("ssss"))
	nodeIs(t, "ßA", is("ssa"))
}

// The signs are looked at as they are mapped: what is left out parts none, and none of what it becomes is wrong.
func TestSignsAsTheyAreMapped(t *testing.T) {
	nodeIs(t, "\u00ad@", noChar)
	nodeIs(t, "A\u00ad/\u00adB", noChar)
	nodeIs(t, "\ufeffA", is("a"))
	want(t, "א\u00ad\u200d", is("א"), is("א"), is("א"))
	want(t, "A\u200bÞ", is("aþ"), is("aþ"), is("AÞ"))
	want(t, "\u2060ß\u2060", is("ss"), is("ss"), is("ß"))
}

func nodeIs(t *testing.T, s string, a answer) {
	t.Helper()
	if got, err := Node(s); (answer{got, err}) != a {
		t.Errorf("P6.1: Node(%q): %q, %d, not %q, %d", s, got, err, a.s, a.err)
	}
}

func hostIs(t *testing.T, s string, a answer) {
	t.Helper()
	if got, err := Host(s); (answer{got, err}) != a {
		t.Errorf("P6.1: Host(%q): %q, %d, not %q, %d", s, got, err, a.s, a.err)
	}
}

func TestHost(t *testing.T) {
	for _, r := range []struct {
		c   rune
		may bool
	}{
		{44, false}, {45, true}, {46, true}, {47, false}, {48, true}, {57, true}, {58, false},
		{64, false}, {91, false}, {96, false}, {97, true}, {122, true}, {123, false},
		{191, false}, {215, false}, {224, true}, {246, true}, {247, false}, {248, true}, {591, true}, {592, false},
		{879, false}, {880, true}, {1_327, true}, {1_328, false}, {19_967, false}, {19_968, true}, {40_959, true}, {40_960, false},
		{1_423, false}, {1_424, true}, {1_535, true}, {1_536, true}, {1_791, true}, {1_792, false},
		{64_284, false}, {64_285, true}, {64_335, true}, {64_336, false},
	} {
		s, a := string(r.c), noChar
		if r.may {
			a = is(s)
		}
		hostIs(t, s, a)
		if rightLeft(r.c) {
			hostIs(t, s+".1-"+s, is(s+".1-"+s))
			continue
		}
		if r.may {
			a = is("a" + s + "1")
		}
		hostIs(t, "a"+s+"1", a)
		hostIs(t, "A"+s+"1", a)
	}
	for _, r := range [][2]string{{"A", "a"}, {"Z", "z"}, {"À", "à"}, {"Ö", "ö"}, {"Ø", "ø"}, {"Þ", "þ"}, {"ß", "ss"}, {"EXAMPLE.ORG", "example.org"}, {"BÜCHER.example", "bücher.example"}} {
		hostIs(t, r[0], is(r[1]))
	}
	for _, s := range []string{" ", "a b", "a_b", "a@b", "a/b", "a:1", "[1]", "a,b", "a*", "😀", "a\u00b7b"} {
		hostIs(t, s, noChar)
	}
	for _, s := range []string{".", "-", "..", "a..b", "-a-", "0", "1.2.3.4"} { // no more is asked of what stands where
		hostIs(t, s, is(s))
	}
}

func TestResource(t *testing.T) {
	for _, s := range []string{"A", "Z", "AZ", "À", "Ö", "×", "Ø", "Þ", "ß", "ÀÖØÞß", " ", " a ", "\"", "&", "'", "/", ":", "<", ">", "@", "a@b/c", "a b:c&d'e\"f<g>h", "a_b", "😀", "~"} {
		got, err := Resource(s)
		if (answer{got, err}) != is(s) {
			t.Errorf("P6.1: Resource(%q): %q, %d", s, got, err)
		}
	}
}

func TestLongNames(t *testing.T) {
	for _, n := range []int{64, 65, 100, 101, 3_000, 100_000} { // how long a name may be is not asked here
		s := strings.Repeat("A", n)
		want(t, s, is(strings.ToLower(s)), is(strings.ToLower(s)), is(s))
		ss := strings.Repeat("ß", n)
		want(t, ss, is(strings.Repeat("s", 2*n)), is(strings.Repeat("s", 2*n)), is(ss))
		alike(t, strings.Repeat("\u00ad", n), is(""))
		alike(t, strings.Repeat("a", n)+"\t", noChar)
		alike(t, strings.Repeat("א", n)+"1", noWay)
	}
}
