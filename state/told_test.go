package state

import (
	"fmt"
	"math/rand"
	"slices"
	"strings"
	"testing"
	"unsafe"

	"cardex/api"
	"cardex/item"
	"cardex/jid"
	"cardex/prep"
	"cardex/utf"
)

// toldRight is what P16.1 says of Right, word by word.
func toldRight(s api.State) bool {
	if len(s.Hosts) > 5 {
		return false
	}
	for i, h := range s.Hosts {
		name, err := jid.Domain(h.Name)
		if i > 0 && strings.Compare(h.Name, s.Hosts[i-1].Name) != 1 || err != 0 || name != h.Name || len(h.Users) > 20 {
			return false
		}
		for k, u := range h.Users {
			if k > 0 && strings.Compare(u.Name, h.Users[k-1].Name) != 1 || !toldUser(u) {
				return false
			}
		}
	}
	return true
}

// toldUser is what P16.1 says of one user.
func toldUser(u api.User) bool {
	name, err := prep.Node(u.Name)
	if err != 0 || name != u.Name || len(u.Name) < 1 || len(u.Name) > 64 || !utf.Line(u.Password, 100) || len(u.Items) > 60 || len(u.Pending) > 60 {
		return false
	}
	seen := map[string]int{}
	for i, x := range u.Items {
		if i > 0 && !jid.Less(u.Items[i-1].Jid, x.Jid) || !item.Right(x) {
			return false
		}
		if x.Sub == 2 || x.Sub == 3 || x.Approved {
			seen[x.Jid]++
		}
	}
	for i, s := range u.Pending {
		bare, err := jid.Bare(s)
		if i > 0 && !jid.Less(u.Pending[i-1], s) || err != 0 || bare != s || seen[s] > 0 {
			return false
		}
	}
	return true
}

// toldOrder is l with each put behind all that it is not to be ahead of.
func toldOrder[T any](l []T, ahead func(a, b T) bool) []T {
	var sorted []T
	for _, x := range l {
		i := len(sorted)
		for i > 0 && ahead(x, sorted[i-1]) {
			i--
		}
		sorted = slices.Insert(sorted, i, x)
	}
	return sorted
}

// toldPending is what P16.1 says of Pending.
func toldPending(l []string) []string {
	var once []string
	for _, s := range toldOrder(l, jid.Less) {
		if !slices.Contains(once, s) {
			once = append(once, s)
		}
	}
	return once
}

// toldSort is what P16.1 says of Sort.
func toldSort(s api.State) api.State {
	s = copied(s)
	for _, h := range s.Hosts {
		for i, u := range h.Users {
			h.Users[i].Items = toldOrder(u.Items, func(a, b api.Item) bool { return jid.Less(a.Jid, b.Jid) })
			h.Users[i].Pending = toldPending(u.Pending)
		}
	}
	for i, h := range s.Hosts {
		s.Hosts[i].Users = toldOrder(h.Users, func(a, b api.User) bool { return a.Name < b.Name })
	}
	s.Hosts = toldOrder(s.Hosts, func(a, b api.Host) bool { return a.Name < b.Name })
	return s
}

// toldPlace is where P16.2 has the first user of an address: the host, and the user in it; false, if there is none.
func toldPlace(s api.State, user string) (int, int, bool) {
	for i, h := range s.Hosts {
		for k, u := range h.Users {
			if u.Name+"@"+h.Name == user {
				return i, k, true
			}
		}
	}
	return 0, 0, false
}

// toldPut is what P16.2 says of Put.
func toldPut(s api.State, user string, u api.User) (api.State, bool) {
	s = copied(s)
	i, k, is := toldPlace(s, user)
	if is {
		u = copiedUser(u)
		u.Name = s.Hosts[i].Users[k].Name
		s.Hosts[i].Users[k] = u
	}
	return s, is
}

// copied is s in memory of its own, without room behind the ends of its lists.
func copied(s api.State) api.State {
	var all []api.Host
	for _, h := range s.Hosts {
		var users []api.User
		for _, u := range h.Users {
			users = append(users, copiedUser(u))
		}
		all = append(all, api.Host{Name: h.Name, Users: slices.Clip(users)})
	}
	return api.State{Hosts: slices.Clip(all)}
}

// copiedUser is u in memory of its own, without room behind the ends of its lists.
func copiedUser(u api.User) api.User {
	var items []api.Item
	for _, x := range u.Items {
		x.Groups = slices.Clip(append([]string(nil), x.Groups...))
		items = append(items, x)
	}
	u.Items, u.Pending = slices.Clip(items), slices.Clip(append([]string(nil), u.Pending...))
	return u
}

// roomyState is s in memory of its own, with something in the room behind the end of each list.
func roomyState(s api.State) api.State {
	s = copied(s)
	for i, h := range s.Hosts {
		for k, u := range h.Users {
			h.Users[k] = roomyUser(u)
		}
		s.Hosts[i].Users = roomy(h.Users, api.User{Name: "~", Pending: []string{"~"}})
	}
	s.Hosts = roomy(s.Hosts, api.Host{Name: "~", Users: []api.User{{Name: "~"}}})
	return s
}

// roomyUser is u in memory of its own, with something in the room behind the end of each list.
func roomyUser(u api.User) api.User {
	u = copiedUser(u)
	for i, x := range u.Items {
		u.Items[i].Groups = roomy(x.Groups, "~")
	}
	u.Items = roomy(u.Items, api.Item{Jid: "~", Groups: []string{"~"}})
	u.Pending = roomy(u.Pending, "~")
	return u
}

// roomy is l in memory of its own, with two of behind in the room behind its end.
func roomy[T any](l []T, behind T) []T {
	return append(append(make([]T, 0, len(l)+2), l...), behind, behind)[:len(l)]
}

// whole is s in memory of its own, with what is in the room behind the ends of its lists in them.
func whole(s api.State) api.State {
	hosts := slices.Clone(s.Hosts[:cap(s.Hosts)])
	for i, h := range hosts {
		hosts[i].Users = slices.Clone(h.Users[:cap(h.Users)])
		for k, u := range hosts[i].Users {
			hosts[i].Users[k] = wholeUser(u)
		}
	}
	return api.State{Hosts: hosts}
}

// wholeUser is u in memory of its own, with what is in the room behind the ends of its lists in them.
func wholeUser(u api.User) api.User {
	u.Items, u.Pending = slices.Clone(u.Items[:cap(u.Items)]), slices.Clone(u.Pending[:cap(u.Pending)])
	for i, x := range u.Items {
		u.Items[i].Groups = slices.Clone(x.Groups[:cap(x.Groups)])
	}
	return u
}

// of is a server that has nothing but u.
func of(u api.User) api.State {
	return api.State{Hosts: []api.Host{{Name: "h", Users: []api.User{u}}}}
}

// stretch is where a list stands in memory, with the room behind its end.
type stretch struct{ from, to uintptr }

// stretchOf is where l stands; nothing, if it has no room at all.
func stretchOf[T any](l []T) []stretch {
	if cap(l) == 0 {
		return nil
	}
	from := uintptr(unsafe.Pointer(unsafe.SliceData(l)))
	var x T
	return []stretch{{from, from + uintptr(cap(l))*unsafe.Sizeof(x)}}
}

// stretches are where all lists of s stand.
func stretches(s api.State) []stretch {
	l := stretchOf(s.Hosts)
	for _, h := range s.Hosts {
		l = append(l, stretchOf(h.Users)...)
		for _, u := range h.Users {
			l = append(append(l, stretchOf(u.Items)...), stretchOf(u.Pending)...)
			for _, x := range u.Items {
				l = append(l, stretchOf(x.Groups)...)
			}
		}
	}
	return l
}

// apart tells whether no two lists, of the states one by one and of all together, share memory.
func apart(states ...api.State) bool {
	var l []stretch
	for _, s := range states {
		l = append(l, stretches(s)...)
	}
	slices.SortFunc(l, func(a, b stretch) int { return int(a.from) - int(b.from) })
	for i := 1; i < len(l); i++ {
		if l[i].from < l[i-1].to {
			return false
		}
	}
	return true
}

// same tells whether a and b are the same, as R9 has it.
func same(a, b api.State) bool {
	return slices.EqualFunc(a.Hosts, b.Hosts, func(a, b api.Host) bool {
		return a.Name == b.Name && slices.EqualFunc(a.Users, b.Users, sameUser)
	})
}

// sameUser tells whether a and b are the same, as R9 has it.
func sameUser(a, b api.User) bool {
	return a.Name == b.Name && a.Password == b.Password && slices.Equal(a.Pending, b.Pending) &&
		slices.EqualFunc(a.Items, b.Items, func(a, b api.Item) bool {
			return a.Jid == b.Jid && a.Name == b.Name && slices.Equal(a.Groups, b.Groups) && a.Sub == b.Sub && a.Ask == b.Ask && a.Approved == b.Approved
		})
}

// show is v, cut where it is too long to be read.
func show(v any) string { return fmt.Sprintf("%.1500s", fmt.Sprintf("%+q", fmt.Sprintf("%+v", v))) }

// rightIs holds that Right of s is want, twice, and that s stays as it was.
func rightIs(t *testing.T, s api.State, want bool) {
	t.Helper()
	given := roomyState(s)
	was := whole(given)
	for range 2 {
		if Right(given) != want {
			t.Fatalf("P16.1: Right(%s): %v", show(s), !want)
		}
	}
	if !same(whole(given), was) {
		t.Fatalf("R3: Right changed what it was given: %s", show(s))
	}
}

// sortIs holds what Sort tells of s, twice, and of what it tells; that is new memory, and s stays as it was.
func sortIs(t *testing.T, s, want api.State) {
	t.Helper()
	given := roomyState(s)
	was := whole(given)
	one, two := Sort(given), Sort(given)
	if !same(one, want) || !same(two, want) {
		t.Fatalf("P16.1: Sort(%s): %s, then %s; want %s", show(s), show(one), show(two), show(want))
	}
	again := Sort(one)
	if !same(again, want) {
		t.Fatalf("P16.1: Sort(%s) is %s, but of that %s", show(s), show(one), show(again))
	}
	if !same(whole(given), was) || !apart(given, one, two, again) {
		t.Fatalf("R3: Sort(%s): what was given is changed, or shared", show(s))
	}
}

// pendingIs holds what Pending tells of l, twice, and of what it tells; that is new memory, and l stays as it was.
func pendingIs(t *testing.T, l []string, want ...string) {
	t.Helper()
	given := roomy(l, "~")
	was := slices.Clone(given[:cap(given)])
	one, two := Pending(given), Pending(given)
	again := Pending(one)
	for _, got := range [][]string{one, two, again} {
		if !slices.Equal(got, want) {
			t.Fatalf("P16.1: Pending(%.800q): %.800q; want %.800q", l, got, want)
		}
	}
	if !slices.Equal(given[:cap(given)], was) || !apart(of(api.User{Pending: given}), of(api.User{Pending: one}), of(api.User{Pending: two}), of(api.User{Pending: again})) {
		t.Fatalf("R3: Pending(%.800q): what was given is changed, or shared", l)
	}
}

// findIs holds what Find tells of s and user, twice, that it is new memory, and that s stays as it was.
func findIs(t *testing.T, s api.State, user string, want api.User, is bool) {
	t.Helper()
	given := roomyState(s)
	was := whole(given)
	one, found := Find(given, user)
	two, again := Find(given, user)
	if !sameUser(one, want) || found != is || !sameUser(two, want) || again != is {
		t.Fatalf("P16.2: Find(%s, %q): %s, %v, then %s, %v; want %s, %v", show(s), user, show(one), found, show(two), again, show(want), is)
	}
	if !same(whole(given), was) || !apart(given, of(one), of(two)) {
		t.Fatalf("R3: Find(%s, %q): what was given is changed, or shared", show(s), user)
	}
}

// putIs holds what Put tells of s, user and u, twice, that it is new memory, and that both stay as they were.
func putIs(t *testing.T, s api.State, user string, u api.User, want api.State, is bool) {
	t.Helper()
	given, put := roomyState(s), roomyUser(u)
	was, wasPut := whole(given), whole(of(put))
	one, found := Put(given, user, put)
	two, again := Put(given, user, put)
	if !same(one, want) || found != is || !same(two, want) || again != is {
		t.Fatalf("P16.2: Put(%s, %q, %s): %s, %v, then %s, %v; want %s, %v", show(s), user, show(u), show(one), found, show(two), again, show(want), is)
	}
	if !same(whole(given), was) || !same(whole(of(put)), wasPut) || !apart(given, of(put), one, two) {
		t.Fatalf("R3: Put(%s, %q, %s): what was given is changed, or shared", show(s), user, show(u))
	}
}

// hold holds all that is told of s, and of each address in it, and the others, against what the chapter says.
func hold(t *testing.T, s api.State, others ...string) {
	t.Helper()
	rightIs(t, s, toldRight(s))
	sortIs(t, s, toldSort(s))
	for _, h := range s.Hosts {
		for _, u := range h.Users {
			others = append(others, u.Name+"@"+h.Name)
		}
	}
	for _, user := range others {
		holdUser(t, s, user)
	}
}

// holdUser holds what Find and Put tell of user in s against what the chapter says.
func holdUser(t *testing.T, s api.State, user string) {
	t.Helper()
	var want api.User
	i, k, is := toldPlace(s, user)
	if is {
		want = s.Hosts[i].Users[k]
	}
	findIs(t, s, user, want, is)
	putIs(t, s, user, want, s, is)
	u := api.User{Name: "other", Password: "\n", Items: []api.Item{{Jid: "z"}, {Jid: "a", Groups: []string{"b", "a"}}}, Pending: []string{"z", "a", "z"}}
	to, _ := toldPut(s, user, u)
	putIs(t, s, user, u, to, is)
	if is {
		// What is put is found.
		u.Name = want.Name
		findIs(t, to, user, u, true)
	}
}

// rowsOf are all rows of up to most of things.
func rowsOf[T any](most int, things ...T) [][]T {
	all := [][]T{nil}
	for last := 0; most > 0; most-- {
		longest := all[last:]
		last = len(all)
		for _, row := range longest {
			for _, thing := range things {
				all = append(all, append(slices.Clone(row), thing))
			}
		}
	}
	return all
}

// by is one of l, by chance.
func by[T any](chance *rand.Rand, l ...T) T { return l[chance.Intn(len(l))] }
