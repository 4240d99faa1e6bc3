package csv

import (
	"cardex/api"
)

// list keeps at most most things, which are read one behind the other.
type list[T any] struct {
	kept []T
	most int
}

// take keeps the thing that s begins with, as first reads it, and tells what is behind it.
// Whether there is room is asked ahead of reading: that a thing is one too many is seen where it begins, left of all that may be wrong in it.
func (l *list[T]) take(s string, first func(s string) (T, string, api.Errno)) (string, api.Errno) {
	if len(l.kept) == l.most {
		return "", api.ErrBig
	}
	thing, rest, err := first(s)
	if err != api.OK {
		return "", err
	}
	l.kept = append(l.kept, thing)
	return rest, api.OK
}
