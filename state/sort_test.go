package state

import (
	"fmt"
	"math/rand"
	"slices"
	"testing"

	"cardex/api"
	"cardex/jid"
)

func TestOrdinarySort(t *testing.T) {
	sortIs(t, verona(), verona())
	s := verona()
	slices.Reverse(s.Hosts)
	for _, h := range s.Hosts {
		slices.Reverse(h.Users)
		for _, u := range h.Users {
			slices.Reverse(u.Items)
			slices.Reverse(u.Pending)
		}
	}
	rightIs(t, s, false)
	sortIs(t, s, verona())
	rightIs(t, Sort(s), true)
}

// nil and an empty list are the same.
func TestSortNothing(t *testing.T) {
	for _, s := range []api.State{{}, {Hosts: []api.Host{}}, {Hosts: []api.Host{{}}}, {Hosts: []api.Host{{Users: []api.User{}}}}, {Hosts: []api.Host{{Users: []api.User{{}}}}}, of(api.User{Items: []api.Item{}, Pending: []string{}}), of(api.User{Items: []api.Item{{}, {Groups: []string{}}}, Pending: []string{""}})} {
		if !same(Sort(s), s) {
			t.Fatalf("P16.1: Sort(%s): %s", show(s), show(Sort(s)))
		}
		sortIs(t, s, s)
	}
	if got := Pending(nil); len(got) != 0 {
		t.Fatalf("P16.1: Pending of nothing: %q", got)
	}
	pendingIs(t, []string{})
}

// Those alike stay in their order, be they few or many, each with what it has.
func TestSortAlike(t *testing.T) {
	u := func(name, password string) api.User { return api.User{Name: name, Password: password} }
	sortIs(t, api.State{Hosts: []api.Host{{Name: "b", Users: []api.User{u("y", "1"), u("x", "2"), u("y", "3"), u("x", "4")}}, {Name: "a", Users: []api.User{u("z", "5")}}, {Name: "b"}, {Name: "a", Users: []api.User{u("y", "6"), u("y", "7")}}}},
		api.State{Hosts: []api.Host{{Name: "a", Users: []api.User{u("z", "5")}}, {Name: "a", Users: []api.User{u("y", "6"), u("y", "7")}}, {Name: "b", Users: []api.User{u("x", "2"), u("x", "4"), u("y", "1"), u("y", "3")}}, {Name: "b"}}})
	for _, n := range []int{11, 12, 13, 19, 20, 21, 40, 41, 61, 300} {
		for _, kinds := range []int{1, 2, 3, 7} {
			var hosts []api.Host
			var who api.User
			for i := range n {
				name := fmt.Sprint(i * i * 5 % kinds)
				hosts = append(hosts, api.Host{Name: name, Users: usersOf(fmt.Sprint(i))})
				who.Items = append(who.Items, api.Item{Jid: name, Name: fmt.Sprint(i)})
				who.Pending = append(who.Pending, name)
			}
			s := api.State{Hosts: hosts}
			sortIs(t, s, toldSort(s))
			s = of(who)
			for _, h := range hosts {
				s.Hosts[0].Users = append(s.Hosts[0].Users, api.User{Name: h.Name, Password: h.Users[0].Name})
			}
			sortIs(t, s, toldSort(s))
		}
	}
}

// Hosts and users are sorted byte by byte, not as addresses: an "@" is a sign as others are.
func TestSortNames(t *testing.T) {
	for _, l := range [][]string{{"a", "B", "b", "A", ""}, {"z@a", "a@b", "b", "a@a", "a"}, {"10", "9", "1"}, {"é", "z", "日", "😀", "\xff", "\ufffd"}, {"a.b", "a-b", "ab", "a b", "a"}} {
		s := named(l...)
		s.Hosts[0].Users = usersOf(l...)
		want := slices.Clone(l)
		slices.Sort(want)
		got := Sort(s)
		for i, name := range want {
			users := got.Hosts[slices.IndexFunc(got.Hosts, func(h api.Host) bool { return len(h.Users) > 0 })].Users
			if got.Hosts[i].Name != name || users[i].Name != name {
				t.Fatalf("P16.1: Sort of the names %q: %s", l, show(got))
			}
		}
		sortIs(t, s, toldSort(s))
	}
}

// Those of one domain stand together; of items none is left out, of those who wait each is once.
func TestSortItems(t *testing.T) {
	u := api.User{Name: "\xff", Password: "\n", Pending: []string{"z@a", "y", "z@a", "a@a", "y", "Y/"}, Items: []api.Item{{Jid: "b@c", Name: "1"}, {Jid: "y", Sub: 7}, {Jid: "a@c", Groups: []string{"h", "g", "", "g"}}, {Jid: "b@c", Name: "2"}, {Jid: "z@a", Ask: true, Sub: api.Both}}}
	want := api.User{Name: "\xff", Password: "\n", Pending: []string{"Y/", "a@a", "z@a", "y"}, Items: []api.Item{{Jid: "z@a", Ask: true, Sub: api.Both}, {Jid: "a@c", Groups: []string{"h", "g", "", "g"}}, {Jid: "b@c", Name: "1"}, {Jid: "b@c", Name: "2"}, {Jid: "y", Sub: 7}}}
	sortIs(t, of(u), of(want))
	s, to := verona(), verona()
	s.Hosts[1].Users[2] = u
	to.Hosts[1].Users = []api.User{to.Hosts[1].Users[0], to.Hosts[1].Users[1], want}
	sortIs(t, s, to)
}

// Who waits, and is let already, stays: Sort asks nothing of it.
func TestSortLeavesOutNothing(t *testing.T) {
	u := api.User{Name: "a", Items: []api.Item{{Jid: "x", Sub: api.Both}, {Jid: "y", Approved: true}}, Pending: []string{"x", "y"}}
	sortIs(t, of(u), of(u))
	var many api.User
	var s api.State
	for _, name := range numbers(300) {
		many.Items, many.Pending = append(many.Items, api.Item{Jid: name}), append(many.Pending, name)
		s.Hosts = append(s.Hosts, api.Host{Name: name})
	}
	sortIs(t, s, s)
	sortIs(t, of(many), of(many))
}

func TestSortAllShortRows(t *testing.T) {
	for _, l := range rowsOf(4, "a", "b", "b@a", "a@b", "B") {
		s := named(l...)
		for i := range s.Hosts {
			s.Hosts[i].Users = usersOf(slices.Concat(l[i:], l[:i])...)
		}
		if len(l) > 0 {
			s.Hosts[0].Users[0].Items, s.Hosts[0].Users[0].Pending = itemsOf(l...), l
		}
		hold(t, s)
	}
}

func TestPending(t *testing.T) {
	pendingIs(t, []string{"a"}, "a")
	pendingIs(t, []string{"a", "a"}, "a")
	pendingIs(t, []string{"a", "a", "a"}, "a")
	pendingIs(t, []string{"z@a", "a@b"}, "z@a", "a@b")
	pendingIs(t, []string{"a@b", "z@a"}, "z@a", "a@b")
	pendingIs(t, []string{"b@a", "a@b", "b@a", "a@a", "c"}, "a@a", "b@a", "a@b", "c")
	pendingIs(t, []string{"romeo@montague", "tybalt@capulet", "capulet", "romeo@montague", "paris@capulet"}, "capulet", "paris@capulet", "tybalt@capulet", "romeo@montague")
	pendingIs(t, []string{"é@b", "z@b", "日@a", "é@b"}, "日@a", "z@b", "é@b")
}

// What is no address is told as well, and as it is: nothing is made small, and "" is one of them.
func TestPendingOfOthers(t *testing.T) {
	pendingIs(t, []string{""}, "")
	pendingIs(t, []string{"", ""}, "")
	pendingIs(t, []string{"a", "", "A", ""}, "", "A", "a")
	pendingIs(t, []string{"a@b", "A@b", "a@B", "a@b."}, "a@B", "A@b", "a@b", "a@b.")
	pendingIs(t, []string{"\xff", "b/r", "b", "@", "a@b@c", "\n", "@b"}, "@", "\n", "@b", "b", "b/r", "a@b@c", "\xff")
}

func TestPendingOfAllShortRows(t *testing.T) {
	for _, l := range rowsOf(5, "a", "b", "b@a", "a@b", "B@a") {
		pendingIs(t, l, toldPending(l)...)
	}
	for _, l := range rowsOf(3, "", "@", "a@", "@a", "a@b@c", "a@b/c", "b/c", "\xff", "é@b", "a.b", "a@b.") {
		pendingIs(t, l, toldPending(l)...)
	}
}

// More than MaxItems, and many alike.
func TestPendingOfMany(t *testing.T) {
	chance := rand.New(rand.NewSource(3))
	for _, n := range []int{11, 12, 13, 19, 20, 21, 60, 61, 400} {
		for _, kinds := range []int{1, 2, 7, 59, 1_000} {
			var l []string
			for range n {
				l = append(l, by(chance, "", "a@", "z@")+fmt.Sprint("h", chance.Intn(kinds)))
			}
			pendingIs(t, l, toldPending(l)...)
		}
	}
	pendingIs(t, slices.Repeat([]string{"a"}, 1_000), "a")
	pendingIs(t, numbers(1_000), numbers(1_000)...)
}

// What is told may wait, if each is an address, and they are not too many.
func TestPendingRises(t *testing.T) {
	for _, l := range rowsOf(5, "a", "b", "b@a", "a@b", "é@a") {
		got := Pending(l)
		for i := range max(len(got), 1) - 1 {
			if !jid.Less(got[i], got[i+1]) {
				t.Fatalf("P16.1: Pending(%q): %q stands ahead of %q", l, got[i], got[i+1])
			}
		}
		rightIs(t, of(api.User{Name: "a", Pending: got}), true)
		rightIs(t, of(api.User{Name: "a", Pending: l}), slices.Equal(l, got))
	}
}

// What Sort tells of a server that only stands in another order is right.
func TestSortedIsRight(t *testing.T) {
	chance := rand.New(rand.NewSource(5))
	for range 500 {
		s := verona()
		mix := chance.Shuffle
		mix(len(s.Hosts), func(i, k int) { s.Hosts[i], s.Hosts[k] = s.Hosts[k], s.Hosts[i] })
		for i, h := range s.Hosts {
			mix(len(h.Users), func(i, k int) { h.Users[i], h.Users[k] = h.Users[k], h.Users[i] })
			for k, u := range h.Users {
				mix(len(u.Items), func(i, k int) { u.Items[i], u.Items[k] = u.Items[k], u.Items[i] })
				mix(len(u.Pending), func(i, k int) { u.Pending[i], u.Pending[k] = u.Pending[k], u.Pending[i] })
				s.Hosts[i].Users[k].Pending = slices.Concat(u.Pending, u.Pending[:chance.Intn(len(u.Pending)+1)])
			}
		}
		sortIs(t, s, verona())
		rightIs(t, Sort(s), true)
	}
}
