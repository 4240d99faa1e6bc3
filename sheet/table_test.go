package sheet

import (
	"slices"
	"strings"
	"testing"

	"cardex/api"
)

// letters is a table of other things than contacts: what is put into them is kept in its order, unless it is "x".
func letters() table[string] {
	letter := func(name string) column[string] {
		put := func(to *string, field string) api.Errno {
			if field == "x" {
				return api.Errno(name[0])
			}
			*to += name + field
			return api.OK
		}
		return column[string]{name: name, put: put, text: func(of string) string { return name + of }}
	}
	return table[string]{letter("b"), letter("a"), letter("cd")}
}

// Columns are found and read in the table's order, whatever the header's.
func TestFind(t *testing.T) {
	for _, r := range []struct {
		header string
		at     []int
		row    string
		told   string
		err    api.Errno
	}{
		{"b", []int{0}, "1", "b1", api.OK}, {"A", []int{0}, "", "a", api.OK}, {"a|b", []int{1, 0}, "1|2", "b2a1", api.OK}, {"b|a", []int{0, 1}, "1|2", "b1a2", api.OK}, {"Cd|a|B", []int{2, 1, 0}, "1|2|3", "b3a2cd1", api.OK}, {"a|cD", []int{0, 1}, "1|2", "a1cd2", api.OK},
		{"a|b", []int{1, 0}, "x|x", "", 'b'}, {"a|b", []int{1, 0}, "x|1", "", 'a'}, {"cd|a", []int{1, 0}, "x|x", "", 'a'}, {"a|b", []int{1, 0}, "1", "", api.ErrValue}, {"a|b", []int{1, 0}, "x|x|x", "", api.ErrValue},
		{"a|a", nil, "1|2", "", api.ErrValue}, {"c", nil, "1", "", api.ErrValue}, {"a|c", nil, "1|2", "", api.ErrValue}, {"", nil, "", "", api.ErrValue}, {"a|b|A", nil, "1|2|3", "", api.ErrValue}, {"a|b|cd|a", nil, "1|2|3|4", "", api.ErrValue},
	} {
		found := letters().find(strings.Split(r.header, "|"))
		var at []int
		for _, p := range found {
			at = append(at, p.at)
		}
		if !slices.Equal(at, r.at) {
			t.Errorf("find(%q): %v; want %v", r.header, at, r.at)
		}
		for _, name := range []string{"b", "a", "cd", "c", ""} {
			if want := len(r.at) > 0 && slices.Contains(strings.Split(strings.ToLower(r.header), "|"), name); found.has(name) != want {
				t.Errorf("has(%q) of %q: %v", name, r.header, !want)
			}
		}
		if told, err := found.read(strings.Split(r.row, "|")); told != r.told || err != r.err {
			t.Errorf("read(%q) of %q: %q, %d; want %q, %d", r.row, r.header, told, err, r.told, r.err)
		}
	}
	if found := letters().find(nil); found != nil {
		t.Errorf("find of no names: %v", found)
	}
}

// All columns are told in the table's order.
func TestHeaderAndRow(t *testing.T) {
	if l := letters().header(); !slices.Equal(l, []string{"b", "a", "cd"}) {
		t.Errorf("header: %q", l)
	}
	if l := letters().row("1"); !slices.Equal(l, []string{"b1", "a1", "cd1"}) {
		t.Errorf("row: %q", l)
	}
	if l := (table[int]{}).header(); len(l) != 0 {
		t.Errorf("header of no columns: %q", l)
	}
}
