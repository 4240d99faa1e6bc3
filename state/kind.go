package state

import (
	"slices"
	"sort"
)

// kind is what the lists of one kind have in common: how many may be in one, which of two is ahead, and what may be in it at all.
type kind[T any] struct {
	most  int
	below func(a, b T) bool
	fits  func(x T) bool
}

// right tells whether there may be such a list: each of it fits, and is above the one ahead.
func (k kind[T]) right(l []T) bool {
	if len(l) > k.most {
		return false
	}
	for i, x := range l {
		if i > 0 && !k.below(l[i-1], x) || !k.fits(x) {
			return false
		}
	}
	return true
}

// sorted is a list of its own of all that is in l, be it right or not; what is alike stays in its order.
func (k kind[T]) sorted(l []T) []T {
	all := slices.Clone(l)
	sort.SliceStable(all, func(i, j int) bool { return k.below(all[i], all[j]) })
	return all
}
