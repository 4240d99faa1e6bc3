package ranges

// search tells whether one of l, with its place there, is as asked.
func search[T any](l []T, asked func(at int, one T) bool) bool {
	for at, one := range l {
		if asked(at, one) {
			return true
		}
	}
	return false
}
