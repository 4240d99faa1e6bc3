package machine

// change is an event, and what it makes of the T that it comes to.
type change[E, T comparable] struct {
	event  E
	behind func(was T) T
}

// table is a change of each event that there is.
type table[E, T comparable] []change[E, T]

// step is what event makes of was, and whether that is another one. An event that there is not makes nothing of it.
func (t table[E, T]) step(was T, event E) (T, bool) {
	for _, c := range t {
		if c.event == event {
			is := c.behind(was)
			return is, is != was
		}
	}
	return was, false
}
