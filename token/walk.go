package token

import (
	"strings"
)

// walk is what comes on the way through a text, one thing behind the other.
type walk[T any] struct {
	found []T
}

// through goes on in t for as long as next finds a thing where t stands.
// Then t stands where the first one begins that is none, whatever next had passed over of it.
func (w *walk[T]) through(t *text, next func() (T, bool)) {
	for {
		begin := t.at
		thing, ok := next()
		if !ok {
			t.at = begin
			return
		}
		w.found = append(w.found, thing)
	}
}

// text is gone through from its beginning; at, in bytes, is where what is left of it begins.
type text struct {
	all string
	at  int
}

// over passes over mark, if it comes next.
func (t *text) over(mark string) bool {
	found := strings.HasPrefix(t.all[t.at:], mark)
	if found {
		t.at += len(mark)
	}
	return found
}

// run passes over as many bytes that are among these as come next.
func (t *text) run(among func(c byte) bool) string {
	begin := t.at
	for t.at < len(t.all) && among(t.all[t.at]) {
		t.at++
	}
	return t.all[begin:t.at]
}

// name passes over a name, if one comes next.
func (t *text) name() string {
	if t.at == len(t.all) || !begins(t.all[t.at]) {
		return ""
	}
	return t.run(within)
}

// blank tells whether c is a blank.
func blank(c byte) bool { return c == 9 || c == 10 || c == 13 || c == 32 }

// begins tells whether a name may begin with c.
func begins(c byte) bool { return 'A' <= c && c <= 'Z' || 'a' <= c && c <= 'z' || c == '_' }

// within tells whether c may stand within a name.
func within(c byte) bool { return begins(c) || '0' <= c && c <= '9' || c == '-' || c == '.' }
