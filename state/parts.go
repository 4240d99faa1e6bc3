package state

import (
	"slices"
	"strings"

	"cardex/api"
	"cardex/item"
)

// at is where the first user of s stands that has the address user; nil, if there is none.
func at(s api.State, user string) *api.User {
	for _, h := range s.Hosts {
		name, here := strings.CutSuffix(user, "@"+h.Name)
		if !here {
			continue
		}
		// Nothing is asked of names here, so an address may fit more than one host: "a@b@c" is a of "b@c", and "a@b" of c.
		if i := slices.IndexFunc(h.Users, func(u api.User) bool { return u.Name == name }); i >= 0 {
			return &h.Users[i]
		}
	}
	return nil
}

// each is a list of its own of what turn makes of each of l.
func each[T any](l []T, turn func(x T) T) []T {
	all := slices.Clone(l)
	for i, x := range all {
		all[i] = turn(x)
	}
	return all
}

// sortedHost is h with its users, and all that they have, in order.
func sortedHost(h api.Host) api.Host {
	h.Users = users().sorted(each(h.Users, sortedUser))
	return h
}

// sortedUser is u with the roster, and those who wait, in order.
func sortedUser(u api.User) api.User {
	u.Items, u.Pending = item.Sort(u.Items), Pending(u.Pending)
	return u
}

// ownHost is h with lists of its own: what is handed out shares none with what came in.
func ownHost(h api.Host) api.Host {
	h.Users = each(h.Users, ownUser)
	return h
}

// ownUser is u with lists of its own.
func ownUser(u api.User) api.User {
	u.Items, u.Pending = each(u.Items, ownItem), slices.Clone(u.Pending)
	return u
}

// ownItem is x with a list of its own.
func ownItem(x api.Item) api.Item {
	x.Groups = slices.Clone(x.Groups)
	return x
}
