package tree

// stack is things one upon the other: what was put last is taken first.
type stack[T any] struct {
	things []T
}

// put lays thing on top.
func (s *stack[T]) put(thing T) { s.things = append(s.things, thing) }

// take takes away what is on top; there must be something.
func (s *stack[T]) take() { s.things = s.things[:s.height()-1] }

// top is what is on top, if there is something.
func (s *stack[T]) top() (T, bool) {
	if s.height() == 0 {
		var none T
		return none, false
	}
	return s.things[s.height()-1], true
}

// height is how many there are.
func (s *stack[T]) height() int { return len(s.things) }
