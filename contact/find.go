package contact

import (
	"slices"
)

// found is a thing, and the kind that it is the first one of.
type found[K, T any] struct {
	kind  K
	thing T
}

// find parts things, in their order, into those that are the first one of a kind, and all others.
func find[K, T any](kinds []K, things []T, has func(kind K, thing T) bool) (firsts []found[K, T], others []T) {
	free := slices.Clone(kinds)
	for _, thing := range things {
		at := slices.IndexFunc(free, func(k K) bool { return has(k, thing) })
		if at < 0 {
			others = append(others, thing)
			continue
		}
		firsts = append(firsts, found[K, T]{free[at], thing})
		free = slices.Delete(free, at, at+1)
	}
	return firsts, others
}

// each is what turn makes of each of l.
func each[T, U any](l []T, turn func(thing T) U) []U {
	var all []U
	for _, thing := range l {
		all = append(all, turn(thing))
	}
	return all
}
