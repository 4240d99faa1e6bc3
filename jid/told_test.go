package jid

import (
	"testing"

	"cardex/api"
	"cardex/prep"
)

// first tells where the first sign of s is: -1, if there is none.
func first(s string, sign byte) int {
	for i := range len(s) {
		if s[i] == sign {
			return i
		}
	}
	return -1
}

// told is what P7.1 says of Parse, word by word.
func told(s string) (api.Jid, api.Errno) {
	resource, local := "", ""
	slash := first(s, '/')
	if slash >= 0 {
		s, resource = s[:slash], s[slash+1:]
	}
	at := first(s, '@')
	if at >= 0 {
		local, s = s[:at], s[at+1:]
	}
	domain, err := toldDomain(s)
	if err != api.OK {
		return api.Jid{}, err
	}
	if at >= 0 {
		local, err = prep.Node(local)
		if err != api.OK {
			return api.Jid{}, err
		}
		if len(local) < 1 || len(local) > 64 {
			return api.Jid{}, api.ErrJid
		}
	}
	if slash >= 0 {
		resource, err = prep.Resource(resource)
		if err != api.OK {
			return api.Jid{}, err
		}
		if len(resource) < 1 || len(resource) > 64 {
			return api.Jid{}, api.ErrJid
		}
	}
	return api.Jid{Local: local, Domain: domain, Resource: resource}, api.OK
}

// toldDomain is what the chapter's Words say of a domain.
func toldDomain(s string) (string, api.Errno) {
	s, err := prep.Host(s)
	if err != api.OK {
		return "", err
	}
	if n := len(s); n > 0 && s[n-1] == '.' {
		s = s[:n-1]
	}
	if len(s) < 1 || len(s) > 100 {
		return "", api.ErrJid
	}
	for i := range len(s) {
		end := i == 0 || i == len(s)-1 || s[i-1] == '.' || s[i+1] == '.'
		if s[i] == '-' && end || s[i] == '.' && (end || s[i-1] == '-' || s[i+1] == '-') {
			return "", api.ErrJid
		}
	}
	return s, api.OK
}

// toldText is what P7.1 says of Text.
func toldText(j api.Jid) string {
	b := []byte(nil)
	if len(j.Local) > 0 {
		b = append(append(b, j.Local...), '@')
	}
	b = append(b, j.Domain...)
	if len(j.Resource) > 0 {
		b = append(append(b, '/'), j.Resource...)
	}
	return string(b)
}

// toldBare is what P7.1 says of Bare.
func toldBare(s string) (string, api.Errno) {
	j, err := told(s)
	if err == api.OK && first(s, '/') >= 0 {
		err = api.ErrJid
	}
	if err != api.OK {
		return "", err
	}
	return toldText(j), api.OK
}

// toldLess is what P7.1 says of Less.
func toldLess(a, b string) bool {
	ofA, ofB := a[first(a, '@')+1:], b[first(b, '@')+1:]
	return ofA < ofB || ofA == ofB && a < b
}

// hold holds what is answered of s against what is told of it, and what is kept against itself.
func hold(t *testing.T, s string) {
	t.Helper()
	j, err := Parse(s)
	if want, wrong := told(s); j != want || err != wrong {
		t.Fatalf("P7.1: Parse(%q): %+v, %d, not %+v, %d", s, j, err, want, wrong)
	}
	if err == api.OK {
		text := Text(j)
		if want := toldText(j); text != want {
			t.Fatalf("P7.1: Text(%+v): %q, not %q", j, text, want)
		}
		if again, err := Parse(text); again != j || err != api.OK {
			t.Fatalf("P7.1: Parse(%q) is %+v, but its text %q is parsed as %+v, %d", s, j, text, again, err)
		}
	}
	bare, err := Bare(s)
	if want, wrong := toldBare(s); bare != want || err != wrong {
		t.Fatalf("P7.1: Bare(%q): %q, %d, not %q, %d", s, bare, err, want, wrong)
	}
	if err == api.OK {
		if again, err := Bare(bare); again != bare || err != api.OK {
			t.Fatalf("P7.1: Bare(%q) is %q, but that is bare as %q, %d", s, bare, again, err)
		}
	}
	domain, err := Domain(s)
	if want, wrong := toldDomain(s); domain != want || err != wrong {
		t.Fatalf("P7.1: Domain(%q): %q, %d, not %q, %d", s, domain, err, want, wrong)
	}
	if err == api.OK {
		if again, err := Domain(domain); again != domain || err != api.OK {
			t.Fatalf("P7.1: Domain(%q) is %q, but that is kept as %q, %d", s, domain, again, err)
		}
	}
}

// texts are all texts of at most most of signs.
func texts(signs []string, most int) []string {
	all := []string{""}
	for last := 0; most > 0; most-- {
		longest := all[last:]
		last = len(all)
		for _, s := range longest {
			for _, sign := range signs {
				all = append(all, s+sign)
			}
		}
	}
	return all
}

// Of all that tells parts from each other, few signs: the marks at every place.
func TestAllPlacesOfTheMarks(t *testing.T) {
	for _, s := range texts([]string{"a", "@", "/", ".", "-"}, 7) {
		hold(t, s)
	}
}

// Of all that prep tells apart, more signs: each error at every place.
func TestAllShortTexts(t *testing.T) {
	for _, s := range texts([]string{"a", "Z", "ß", "1", "@", "/", ".", "-", "\u00ad", "א", " ", "\t", "\xff"}, 4) {
		hold(t, s)
	}
}

// Each part of many lengths, alone and with the others, of signs that are one to four bytes long, or none as they are kept.
func TestLengths(t *testing.T) {
	for _, sign := range []string{"a", "A", "ß", "é", "É", "中", "😀", "\u00ad", "א", "a\u00ad", "Aé中", "a.", "-a"} {
		part := ""
		for len(part) < 240 {
			for _, s := range []string{part, part + "a", part + ".", part + "a.", part + "a..", part + "é"} {
				hold(t, s)
				hold(t, s+"@b")
				hold(t, "b/"+s)
				hold(t, "b@"+s)
				hold(t, s+"/b")
				hold(t, s+"@"+s+"/"+s)
			}
			part += sign
		}
	}
}

func TestLessOfAllShortTexts(t *testing.T) {
	l := texts([]string{"a", "b", "@", "/", "B", "é", "\xff"}, 3)
	for _, a := range l {
		for _, b := range l {
			if got := Less(a, b); got != toldLess(a, b) {
				t.Fatalf("P7.1: Less(%q, %q): %v", a, b, got)
			}
			if ahead, behind := Less(a, b), Less(b, a); ahead && behind || ahead == behind && a != b {
				t.Fatalf("P7.1: Less(%q, %q): %v, but the other way round %v", a, b, ahead, behind)
			}
		}
	}
}
