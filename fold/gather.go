package fold

// gather tells the rows that parts make: a part of which begins is true begins one, each other goes to the row that is open.
// A first row is open from the start, so that there is one even of no parts.
// begins is asked of each part once, in their order, so that it may keep what it has seen.
func gather[T any](parts []T, begins func(part T) bool) [][]T {
	var rows [][]T
	open := 0
	for at, part := range parts {
		if begins(part) {
			rows = append(rows, parts[open:at])
			open = at
		}
	}
	return append(rows, parts[open:])
}
