package item

import (
	"slices"
)

// ordered is a list of its own of the things of l, each ahead of those that it is below; those alike stay in their order.
func ordered[T any](l []T, below func(a, b T) bool) []T {
	all := slices.Clone(l)
	slices.SortStableFunc(all, func(a, b T) int {
		switch {
		case below(a, b):
			return -1
		case below(b, a):
			return 1
		}
		return 0
	})
	return all
}
