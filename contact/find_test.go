package contact

import (
	"slices"
	"testing"
)

// Things are found by their kinds in their own order, each kind once; the kinds, and the things, stay as they are.
func TestFind(t *testing.T) {
	kinds, things := []byte("abc"), []string{"bx", "x", "ay", "b", "a", "", "by"}
	has := func(kind byte, thing string) bool { return thing != "" && thing[0] == kind }
	for range 2 {
		firsts, others := find(kinds, things, has)
		if want := []found[byte, string]{{'b', "bx"}, {'a', "ay"}}; !slices.Equal(firsts, want) {
			t.Errorf("find: %v; want %v", firsts, want)
		}
		if want := []string{"x", "b", "a", "", "by"}; !slices.Equal(others, want) {
			t.Errorf("find: the others are %q; want %q", others, want)
		}
		others[0] = "a"
	}
	if string(kinds) != "abc" || things[1] != "x" {
		t.Errorf("find changed what it was given: %q, %q", kinds, things)
	}
	firsts, others := find(nil, things, has)
	if firsts != nil || !slices.Equal(others, things) {
		t.Errorf("find of no kinds: %v, %q", firsts, others)
	}
	firsts, others = find(kinds, nil, has)
	if firsts != nil || others != nil {
		t.Errorf("find of no things: %v, %q", firsts, others)
	}
}
