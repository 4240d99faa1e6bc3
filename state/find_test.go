package state

import (
	"slices"
	"strings"
	"testing"

	"cardex/api"
)

func TestOrdinaryFind(t *testing.T) {
	s := verona()
	for _, r := range []struct {
		user       string
		host, name int
	}{{"juliet@chamber.example", 1, 0}, {"nurse@chamber.example", 1, 1}, {"paris@chamber.example", 1, 2}, {"juliet@montague.example", 2, 0}, {"romeo@montague.example", 2, 1}} {
		findIs(t, s, r.user, s.Hosts[r.host].Users[r.name], true)
	}
	hold(t, s, "romeo@chamber.example", "juliet@capulet.example", "tybalt@montague.example")
}

// An address is found byte by byte: what would be kept as it is another one, and so is part of it, or more.
func TestFindNone(t *testing.T) {
	s := verona()
	for _, user := range []string{"", "@", "juliet", "juliet@", "chamber.example", "@chamber.example", "Juliet@chamber.example", "juliet@Chamber.example", "juliet@chamber.example.", "juliet@chamber.example/r", "uliet@chamber.example", "juliet@chamber.exampl", "juliet@hamber.example", "juliet@chamber.examplee", "jjuliet@chamber.example", "julietchamber.example", "juliet@@chamber.example", "juliet@chamber.example@chamber.example", " juliet@chamber.example", "juliet@chamber.example\n", "xmpp:juliet@chamber.example", "juliet\xff@chamber.example", "nurse@capulet.example"} {
		findIs(t, s, user, api.User{}, false)
		holdUser(t, s, user)
	}
	for _, x := range []api.State{{}, {Hosts: []api.Host{}}, named("a", "b"), {Hosts: []api.Host{{Name: "b", Users: []api.User{}}}}} {
		if u, is := Find(x, "a@b"); !sameUser(u, api.User{}) || is {
			t.Fatalf("P16.2: Find(%s): %s, %v", show(x), show(u), is)
		}
		if to, is := Put(x, "a@b", api.User{Name: "a"}); !same(to, x) || is {
			t.Fatalf("P16.2: Put(%s): %s, %v", show(x), show(to), is)
		}
	}
}

// Of those of one address the first counts, and only that one is put anew: in the order of the hosts, then of the users.
func TestFirst(t *testing.T) {
	u := func(name, password string) api.User {
		return api.User{Name: name, Password: password, Items: itemsOf(password, password), Pending: []string{password}}
	}
	s := api.State{Hosts: []api.Host{
		{Name: "b"},
		{Name: "b", Users: []api.User{u("c", "1"), u("a@x", "2"), u("a", "3"), u("a", "4")}},
		{Name: "x@b", Users: []api.User{u("a", "5"), u("", "6"), u("a", "7")}},
		{Name: "b", Users: []api.User{u("a", "8"), u("c", "9"), u("d", "10")}},
		{Name: "", Users: []api.User{u("a@x@b", "11"), u("", "12"), u("a", "13")}},
		{Name: "@", Users: []api.User{u("", "14"), u("a", "15")}},
	}}
	for user, password := range map[string]string{"c@b": "1", "a@x@b": "2", "a@b": "3", "@x@b": "6", "d@b": "10", "a@x@b@": "11", "@": "12", "a@": "13", "@@": "14", "a@@": "15"} {
		found, is := Find(s, user)
		if !is || found.Password != password {
			t.Fatalf("P16.2: Find of %q: the one of %q, %v; want that of %q", user, found.Password, is, password)
		}
		hold(t, s, user)
	}
	slices.Reverse(s.Hosts)
	hold(t, s, "a@x", "x@b", "b", "a@c")
	if found, is := Find(s, "a@x@b"); !is || found.Password != "5" {
		t.Fatalf("P16.2: Find, the other way round: the one of %q, %v", found.Password, is)
	}
}

func TestPut(t *testing.T) {
	u := api.User{Name: "nobody", Password: "new", Items: []api.Item{{Jid: "x", Name: "n", Groups: []string{"f", "g"}, Sub: api.To, Approved: true}}, Pending: []string{"w"}}
	want := verona()
	want.Hosts[1].Users[1] = u
	want.Hosts[1].Users[1].Name = "nurse"
	putIs(t, verona(), "nurse@chamber.example", u, want, true)
	// The name of what is put plays no part, be it the place's, another one's, or none.
	for _, name := range []string{"nurse", "juliet", "", "A@", "\xff", strings.Repeat("n", 65)} {
		u.Name = name
		putIs(t, verona(), "nurse@chamber.example", u, want, true)
		putIs(t, verona(), "nobody@chamber.example", u, verona(), false)
		putIs(t, verona(), name, u, verona(), false)
	}
	rightIs(t, want, true)
}

// What is put is put as it is: not sorted, not asked whether it is right.
func TestPutAsItIs(t *testing.T) {
	for _, u := range []api.User{
		{},
		{Password: "\n\xff"},
		{Items: []api.Item{{Jid: "z"}, {Jid: "a", Groups: []string{"b", "a", "", "a"}, Sub: 9}, {Jid: "z"}, {Jid: "A/b"}}},
		{Pending: []string{"z@a", "z", "a", "z", "", "A/b"}},
		{Items: []api.Item{{Jid: "z", Sub: api.Both}}, Pending: []string{"z"}},
		{Items: itemsOf(numbers(100)...), Pending: numbers(100)},
	} {
		want := verona()
		u.Name = "romeo"
		want.Hosts[2].Users[1] = u
		u.Name = "other"
		putIs(t, verona(), "romeo@montague.example", u, want, true)
	}
	// Nor is the server sorted.
	s := verona()
	slices.Reverse(s.Hosts)
	slices.Reverse(s.Hosts[1].Users)
	hold(t, s, "a@b")
}

// A user may be put that is of the server itself: no list of the answer is another one's then.
func TestPutWhatWasFound(t *testing.T) {
	s := verona()
	for _, to := range []string{"juliet@chamber.example", "paris@chamber.example", "romeo@montague.example"} {
		x, is := Put(s, to, s.Hosts[1].Users[0])
		if !is || !apart(s, x) || !same(s, verona()) {
			t.Fatalf("R3: Put of what stands in the server, for %q: %s, %v", to, show(x), is)
		}
		found, is := Find(x, to)
		found.Name = "juliet"
		if !is || !sameUser(found, verona().Hosts[1].Users[0]) {
			t.Fatalf("P16.2: Put of what stands in the server, for %q: found %s, %v", to, show(found), is)
		}
	}
	// One list may be handed in at many places.
	groups, pending := []string{"g"}, []string{"w"}
	l := []api.Item{{Jid: "x", Groups: groups}, {Jid: "y", Groups: groups}}
	u := api.User{Name: "a", Items: l, Pending: pending}
	users := []api.User{u, u}
	s = api.State{Hosts: []api.Host{{Name: "b", Users: users}, {Name: "c", Users: users}}}
	x, _ := Put(s, "a@b", u)
	y, _ := Put(s, "z@b", u)
	found, _ := Find(s, "a@b")
	if !apart(x, y, Sort(s), of(found)) || !same(x, s) || !same(y, s) || !same(Sort(s), s) {
		t.Fatalf("R3: lists that are handed in at many places: %s, %s, %s, %s", show(x), show(y), show(Sort(s)), show(found))
	}
}

// All short rows of names, in two hosts.
func TestFindInAllShortRows(t *testing.T) {
	for _, l := range rowsOf(3, "a", "b", "a@b", "") {
		for _, hosts := range rowsOf(2, "b", "c", "b@c", "") {
			s := named(hosts...)
			for i := range s.Hosts {
				s.Hosts[i].Users = usersOf(l...)
			}
			hold(t, s, "a@b", "a@c", "a@b@c", "b@c", "@", "@b", "a", "")
		}
	}
}
