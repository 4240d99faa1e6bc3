package sheet

import (
	"slices"
	"strings"

	"cardex/api"
)

// column is one thing that rows say of each T.
type column[T any] struct {
	name string
	put  func(to *T, field string) api.Errno
	text func(of T) string
}

// table is all columns that there are, each of another name, in the order in which they are read and written.
type table[T any] []column[T]

// place is a column, and where in a row its field stands.
type place[T any] struct {
	column column[T]
	at     int
}

// places are the columns of one header, in the table's order: so it is not the header that says which of two wrong fields counts.
type places[T any] []place[T]

// find tells where the columns stand that header names: nothing, if it names one twice, or one that there is not.
func (t table[T]) find(header []string) places[T] {
	var l places[T]
	for _, c := range t {
		at := slices.IndexFunc(header, c.named)
		if at >= 0 {
			l = append(l, place[T]{c, at})
		}
	}
	// Each column was found once at most, and at a name of its own: a name that is left is none, or was there.
	if len(l) < len(header) {
		return nil
	}
	return l
}

// named tells whether s is the column's name, in any capitals. (Of the signs beyond ASCII some fold to a letter of ASCII, but they are longer.)
func (c column[T]) named(s string) bool {
	return len(s) == len(c.name) && strings.EqualFold(s, c.name)
}

// has tells whether the column of that name is there.
func (l places[T]) has(name string) bool {
	return slices.ContainsFunc(l, func(p place[T]) bool { return p.column.name == name })
}

// read is what row says.
func (l places[T]) read(row []string) (T, api.Errno) {
	var none, told T
	if len(row) != len(l) {
		return none, api.ErrValue
	}
	for _, p := range l {
		if err := p.column.put(&told, row[p.at]); err != api.OK {
			return none, err
		}
	}
	return told, api.OK
}

// header is the names of all columns.
func (t table[T]) header() []string {
	return t.each(func(c column[T]) string { return c.name })
}

// row is what all columns say of thing.
func (t table[T]) row(thing T) []string {
	return t.each(func(c column[T]) string { return c.text(thing) })
}

// each is a row of one field of each column.
func (t table[T]) each(field func(c column[T]) string) []string {
	var row []string
	for _, c := range t {
		row = append(row, field(c))
	}
	return row
}
