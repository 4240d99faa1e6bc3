package token

import (
	"reflect"
	"regexp"
	"strings"
	"testing"
	"unicode/utf8"

	"cardex/api"
	"cardex/escape"
	"cardex/utf"
)

// The tokens by the words of P8.1: each form is sought where a token should begin, and what it has in it is read by its groups.
const (
	toldBlank = `[\t\n\r ]`
	toldName  = `[A-Za-z_][A-Za-z0-9_.\-]*`
	toldAttr  = toldBlank + `+(` + toldName + `)` + toldBlank + `*=` + toldBlank + `*("[^"]*"|'[^']*')`
)

var (
	toldOpen  = regexp.MustCompile(`^<(` + toldName + `)((?:` + toldAttr + `)*)` + toldBlank + `*(/?)>`)
	toldClose = regexp.MustCompile(`^</(` + toldName + `)` + toldBlank + `*>`)
	toldText  = regexp.MustCompile(`^[^<]+`)
	toldAttrs = regexp.MustCompile(toldAttr)
)

// toldToken is the token that s begins with, and how long it is: 0, if there is none.
func toldToken(s string) (api.Token, int) {
	if m := toldClose.FindStringSubmatch(s); m != nil {
		return api.Token{Kind: api.Close, Name: m[1]}, len(m[0])
	}
	if m := toldText.FindString(s); m != "" {
		words, err := escape.Back(m)
		if err != api.OK {
			return api.Token{}, 0
		}
		return api.Token{Kind: api.Text, Text: words}, len(m)
	}
	m := toldOpen.FindStringSubmatch(s)
	if m == nil {
		return api.Token{}, 0
	}
	open := api.Token{Kind: api.Open, Name: m[1], Empty: m[5] == "/"}
	names := map[string]bool{}
	for _, a := range toldAttrs.FindAllStringSubmatch(m[2], -1) {
		value, err := escape.Back(a[2][1 : len(a[2])-1])
		if names[a[1]] || err != api.OK {
			return api.Token{}, 0
		}
		names[a[1]] = true
		open.Attrs = append(open.Attrs, api.Attr{Name: a[1], Value: value})
	}
	return open, len(m[0])
}

// told is what P8.1 says of Tokens, word by word.
func told(s string) ([]api.Token, int, api.Errno) {
	if len(s) > 20_000 {
		return nil, 0, api.ErrBig
	}
	if !utf.Valid(s) {
		return nil, 0, api.ErrUtf
	}
	at := 0
	if strings.HasPrefix(s, `<?xml version='1.0' encoding='UTF-8'?>`) {
		at = 38
	}
	var all []api.Token
	for at < len(s) {
		found, size := toldToken(s[at:])
		if size == 0 {
			return nil, at, api.ErrToken
		}
		if len(found.Attrs) > 10 {
			return nil, at, api.ErrBig
		}
		found.At = at
		all = append(all, found)
		at += size
	}
	return all, 0, api.OK
}

// hold holds what is answered of s against what is told of it.
func hold(t *testing.T, s string) {
	t.Helper()
	want, where, wrong := told(s)
	got, at, err := Tokens(s)
	if at != where || err != wrong || !reflect.DeepEqual(got, want) {
		t.Fatalf("P8.1: Tokens(%q): %+v, %d, %d, not %+v, %d, %d", s, got, at, err, want, where, wrong)
	}
}

// texts hands each text of at most most of signs to use.
func texts(signs []string, most int, use func(s string)) {
	var longer func(s string, left int)
	longer = func(s string, left int) {
		use(s)
		if left > 0 {
			for _, sign := range signs {
				longer(s+sign, left-1)
			}
		}
	}
	longer("", most)
}

// The marks of all that is told apart, at every place.
func TestAllShortTexts(t *testing.T) {
	texts([]string{"<", ">", "/", "a", "=", "'", " ", "&lt;"}, 6, func(s string) { hold(t, s) })
	texts([]string{"<a", "</", "<", ">", "/>", " b='c'", "\n", "é", "&", "&#65;", "\x01", "?", "-", "1"}, 4, func(s string) { hold(t, s) })
}

// What stands within an Open, by its pieces.
func TestAllOpens(t *testing.T) {
	texts([]string{" ", "a", "b", "=", "'", "\"", "/", "''"}, 6, func(s string) {
		hold(t, "<a"+s+">")
	})
	texts([]string{" a='1'", "\tb=\"2\"", "\r\nc = '\"'", "a=''", " ", "x", "\n/", "/", "=", "é", " a"}, 4, func(s string) {
		hold(t, "<a"+s+">")
		hold(t, "<_"+s+"/>")
		hold(t, "é<a"+s+">b</a>")
	})
}

// What stands within a Close, and within a value, by all signs that count there.
func TestAllClosesAndValues(t *testing.T) {
	texts([]string{" ", "\t", "\n", "\r", "\v", "\u00a0", "a", "/", ">", "1"}, 4, func(s string) {
		hold(t, "</"+s+">")
		hold(t, "</a"+s+">")
	})
	texts([]string{"'", "\"", "<", ">", "&", "amp;", "&amp;", "&#9;", "é", "\t"}, 4, func(s string) {
		hold(t, "<a b='"+s+"'/>")
		hold(t, "<a b=\""+s+"\"/>")
		hold(t, s)
	})
}

// whole is a text of all kinds of tokens.
const whole = `<?xml version='1.0' encoding='UTF-8'?>` + "\n" + `<server-data xmlns='urn:x'>é&amp;<_h.1  jid = "a'b" ` + "\r\n\t" + `n='"中&#x1F600;' >&gt;>` + `<u/></_h.1 ><a b='😀'/>` + "\t" + `</server-data` + "\r\n" + `> ` + "\n"

// A whole text with one place of it otherwise: each byte away, each other one in its place, each sign put in, and each cut.
func TestOnePlaceOtherwise(t *testing.T) {
	hold(t, whole)
	if _, _, err := Tokens(whole); err != api.OK {
		t.Fatalf("P8.1: Tokens(%q): %d", whole, err)
	}
	for i := range whole {
		hold(t, whole[:i])
		hold(t, whole[i:])
		for j := i + 1; j <= len(whole) && j < i+40; j++ {
			hold(t, whole[:i]+whole[j:])
			hold(t, whole[:j]+whole[i:])
		}
		_, size := utf8.DecodeRuneInString(whole[i:])
		for c := range 256 {
			sign := string([]byte{byte(c)})
			hold(t, whole[:i]+sign+whole[i:])
			hold(t, whole[:i]+sign+whole[i+size:])
		}
		for _, sign := range []string{"é", "😀", "\u0085", "\u00a0", "\ufeff", "&lt;", "<a/>", "<a", "</a>", "ß", "İ"} {
			hold(t, whole[:i]+sign+whole[i:])
			hold(t, whole[:i]+sign+whole[i+size:])
		}
	}
}

// Each byte, and some characters above, in each part of a name, and around all that is told apart.
func TestEachSignAtEachPlace(t *testing.T) {
	signs := []string{"é", "ß", "Ω", "中", "😀", "\u00aa", "\u00b5", "\u0660", "\u2028", "\u3000", "\ufeff", "\ufffd", "ａ", "－"}
	for c := range 256 {
		signs = append(signs, string([]byte{byte(c)}))
	}
	for _, a := range signs {
		for _, s := range []string{"<_/>", "<a_/>", "<a_b/>", "</_>", "</a_>", "</a_b>", "<a _='x'/>", "<a b_='x'/>", "<a b_c='x'/>", "<a_b='x'/>", "<a b=_'x'/>", "<a b=_/>", "<a b=_x_/>", "<a b='_'/>", "<a b='x'_/>", "<a b='x'_c='y'/>", "<a b='x'/_>", "<a/_>", "<_a/>", "<_/a>", "</a>_", "x_y", "<a>_</a>", "&#6_;", "<a b='&_;'/>"} {
			hold(t, strings.ReplaceAll(s, "_", a))
			hold(t, strings.ReplaceAll(s, "_", a+"-"))
			hold(t, strings.ReplaceAll(s, "_", " "+a))
		}
	}
}
