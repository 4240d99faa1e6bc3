package vcard

import (
	"cardex/api"
)

// list gathers at most most things.
type list[T any] struct {
	kept []T
	most int
}

// add keeps thing as the last one, if there is room.
func (l *list[T]) add(thing T) api.Errno {
	if len(l.kept) == l.most {
		return api.ErrBig
	}
	l.kept = append(l.kept, thing)
	return api.OK
}

// last is the one that was kept last; there must be one.
func (l *list[T]) last() *T { return &l.kept[len(l.kept)-1] }
