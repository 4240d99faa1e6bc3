package state

import (
	"slices"

	"cardex/api"
	"cardex/item"
	"cardex/jid"
	"cardex/prep"
	"cardex/utf"
)

// hosts are those of a server.
func hosts() kind[api.Host] {
	return kind[api.Host]{
		most:  api.MaxHosts,
		below: func(a, b api.Host) bool { return a.Name < b.Name },
		fits:  func(h api.Host) bool { return domain(h.Name) && users().right(h.Users) },
	}
}

// users are those of a host.
func users() kind[api.User] {
	return kind[api.User]{
		most:  api.MaxUsers,
		below: func(a, b api.User) bool { return a.Name < b.Name },
		fits:  fitsUser,
	}
}

// items are those of a roster.
func items() kind[api.Item] {
	return kind[api.Item]{
		most:  api.MaxItems,
		below: func(a, b api.Item) bool { return jid.Less(a.Jid, b.Jid) },
		fits:  item.Right,
	}
}

// waiting are those who wait to be let by a user.
func waiting() kind[string] {
	return kind[string]{
		most:  api.MaxItems,
		below: jid.Less,
		fits:  address,
	}
}

// fitsUser tells whether there may be such a user. Who is let already, or ahead, does not wait.
func fitsUser(u api.User) bool {
	if !local(u.Name) || !utf.Line(u.Password, api.MaxString) || !items().right(u.Items) || !waiting().right(u.Pending) {
		return false
	}
	return !slices.ContainsFunc(u.Items, func(x api.Item) bool { return let(x) && slices.Contains(u.Pending, x.Jid) })
}

// let tells whether the one of x may see the user, or may as soon as it asks.
func let(x api.Item) bool { return x.Sub == api.From || x.Sub == api.Both || x.Approved }

// domain tells whether s is the name of a host as it is kept.
func domain(s string) bool {
	name, err := jid.Domain(s)
	return err == api.OK && name == s
}

// local tells whether s is the name of a user as it is kept, and neither too short nor too long for an address.
func local(s string) bool {
	name, err := prep.Node(s)
	return err == api.OK && name == s && s != "" && len(s) <= api.MaxLocal
}

// address tells whether s is an address as it is kept, without a resource.
func address(s string) bool {
	bare, err := jid.Bare(s)
	return err == api.OK && bare == s
}
