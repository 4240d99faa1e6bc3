package state

import (
	"fmt"
	"math/rand"
	"slices"
	"strings"
	"testing"

	"cardex/api"
)

// verona is a server that knows something of every kind, and is right.
func verona() api.State {
	return api.State{Hosts: []api.Host{
		{Name: "capulet.example"},
		{Name: "chamber.example", Users: []api.User{
			{Name: "juliet", Password: "r0m30", Items: []api.Item{
				{Jid: "nurse@capulet.example", Name: "Nurse", Groups: []string{"Family", "Friends"}, Sub: api.Both},
				{Jid: "romeo@montague.example", Name: "Romeo", Sub: api.To},
				{Jid: "tybalt@montague.example", Ask: true},
			}, Pending: []string{"paris@capulet.example", "romeo@montague.example", "tybalt@montague.example"}},
			{Name: "nurse"},
			{Name: "paris", Password: "é 日", Items: []api.Item{{Jid: "a@rome", Sub: api.From}, {Jid: "rome", Approved: true}}, Pending: []string{"b@rome"}},
		}},
		{Name: "montague.example", Users: []api.User{{Name: "juliet", Pending: []string{"a"}}, {Name: "romeo", Items: []api.Item{{Jid: "juliet@chamber.example"}}}}},
	}}
}

// bases are servers that are right, each with a user a at the host b.c, who is not alone in all but the first.
func bases() []api.State {
	a := api.User{Name: "a", Password: "p", Items: []api.Item{{Jid: "x", Sub: api.To, Groups: []string{"g"}}, {Jid: "x@y", Sub: api.From}, {Jid: "z@y", Approved: true}}, Pending: []string{"v", "x"}}
	ahead, behind := api.User{Name: "0", Pending: []string{"w"}}, api.User{Name: "é", Items: []api.Item{{Jid: "w"}}}
	return []api.State{
		{Hosts: []api.Host{{Name: "b.c", Users: []api.User{a}}}},
		{Hosts: []api.Host{{Name: "b.c", Users: []api.User{a, behind}}, {Name: "é", Users: []api.User{a}}}},
		{Hosts: []api.Host{{Name: "0"}, {Name: "b.c", Users: []api.User{ahead, a}}}},
		{Hosts: []api.Host{{Name: "0", Users: []api.User{a}}, {Name: "1"}, {Name: "b.c", Users: []api.User{ahead, a, behind}}, {Name: "é", Users: []api.User{behind}}}},
	}
}

// turned are the bases, with what set makes of the host b.c and its user a.
func turned(set func(h *api.Host, u *api.User)) []api.State {
	l := bases()
	for i := range l {
		s := copied(l[i])
		h := &s.Hosts[slices.IndexFunc(s.Hosts, func(h api.Host) bool { return h.Name == "b.c" })]
		set(h, &h.Users[slices.IndexFunc(h.Users, func(u api.User) bool { return u.Name == "a" })])
		l[i] = s
	}
	return l
}

// rights holds that what set makes of right servers is right.
func rights(t *testing.T, set func(h *api.Host, u *api.User)) {
	t.Helper()
	for _, s := range turned(set) {
		rightIs(t, s, true)
	}
}

// wrongs holds that what set makes of right servers is not.
func wrongs(t *testing.T, set func(h *api.Host, u *api.User)) {
	t.Helper()
	for _, s := range turned(set) {
		rightIs(t, s, false)
	}
}

func TestOrdinaryServers(t *testing.T) {
	rightIs(t, verona(), true)
	rights(t, func(h *api.Host, u *api.User) {})
}

// A server that knows nothing is right; nil and an empty list are the same.
func TestNothing(t *testing.T) {
	for _, s := range []api.State{{}, {Hosts: []api.Host{}}, {Hosts: []api.Host{{Name: "b"}}}, {Hosts: []api.Host{{Name: "b", Users: []api.User{}}}}, {Hosts: []api.Host{{Name: "b", Users: []api.User{{Name: "a"}}}}}, {Hosts: []api.Host{{Name: "b", Users: []api.User{{Name: "a", Items: []api.Item{}, Pending: []string{}}}}}}} {
		if !Right(s) {
			t.Fatalf("P16.1: Right(%s): false", show(s))
		}
	}
	rightIs(t, api.State{Hosts: []api.Host{{}}}, false)
	rightIs(t, of(api.User{}), false)
	rightIs(t, of(api.User{Name: "a", Items: []api.Item{{}}}), false)
	rightIs(t, of(api.User{Name: "a", Pending: []string{""}}), false)
}

// numbers are n names that rise.
func numbers(n int) []string {
	var l []string
	for i := range n {
		l = append(l, fmt.Sprintf("n%04d", i))
	}
	return l
}

func TestHowManyHosts(t *testing.T) {
	for _, n := range []int{0, 1, 2, 3, 4, 5, 6, 7, 8, 20, 60, 1_000} {
		var s api.State
		for _, name := range numbers(n) {
			s.Hosts = append(s.Hosts, api.Host{Name: name, Users: []api.User{{Name: "a"}}})
		}
		rightIs(t, s, n <= 5)
	}
}

func TestHowManyUsers(t *testing.T) {
	for _, n := range []int{0, 1, 2, 5, 6, 19, 20, 21, 22, 60, 1_000} {
		var l []api.User
		for _, name := range numbers(n) {
			l = append(l, api.User{Name: name})
		}
		for _, s := range turned(func(h *api.Host, u *api.User) { h.Users = l }) {
			rightIs(t, s, n <= 20)
		}
	}
}

// Each roster and each list of those who wait may have as many, whatever the others have.
func TestHowManyItems(t *testing.T) {
	for _, n := range []int{0, 1, 20, 21, 59, 60, 61, 62, 100, 1_000} {
		var l []api.Item
		for _, name := range numbers(n) {
			l = append(l, api.Item{Jid: name})
		}
		for _, s := range turned(func(h *api.Host, u *api.User) { u.Items, u.Pending = l, numbers(60) }) {
			rightIs(t, s, n <= 60)
		}
	}
}

func TestHowManyWait(t *testing.T) {
	var l []api.Item
	for _, name := range numbers(60) {
		l = append(l, api.Item{Jid: name})
	}
	for _, n := range []int{0, 1, 20, 21, 59, 60, 61, 62, 100, 1_000} {
		for _, s := range turned(func(h *api.Host, u *api.User) { u.Items, u.Pending = l, numbers(n) }) {
			rightIs(t, s, n <= 60)
		}
	}
}

// All that there may be at once.
func TestGreatest(t *testing.T) {
	var s api.State
	for _, host := range numbers(5) {
		h := api.Host{Name: host}
		for _, name := range numbers(20) {
			u := api.User{Name: name, Password: strings.Repeat("😀", 100), Pending: numbers(60)}
			for i, to := range numbers(60) {
				u.Items = append(u.Items, api.Item{Jid: to, Name: strings.Repeat("é", 100), Groups: numbers(8), Sub: i % 2, Ask: i%2 == 0})
			}
			h.Users = append(h.Users, u)
		}
		s.Hosts = append(s.Hosts, h)
	}
	rightIs(t, s, true)
	last := func(to func(u *api.User)) api.State {
		x := copied(s)
		to(&x.Hosts[4].Users[19])
		return x
	}
	rightIs(t, last(func(u *api.User) { u.Items[59].Sub = api.From }), false)
	rightIs(t, last(func(u *api.User) { u.Items[59].Groups[7] = "a" }), false)
	rightIs(t, last(func(u *api.User) { u.Pending[59] = "A" }), false)
	rightIs(t, last(func(u *api.User) { u.Password += "a" }), false)
}

func TestNamesOfHosts(t *testing.T) {
	long := strings.Repeat("h", 100)
	for _, name := range []string{"b", "b.c", "a-b.c", "1", "1.2", "é", "日", "ss", "\u05d0", long, strings.Repeat("é", 50), "a.b.c.d.e"} {
		rightIs(t, api.State{Hosts: []api.Host{{Name: name, Users: []api.User{{Name: "a"}}}}}, true)
	}
	for _, name := range []string{"", "B", "b.C", "É", "ß", "b.", ".", "..", ".b", "b..c", "-b", "b-", "b-.c", "b.-c", "a@b", "@b", "b/c", "b/", "b c", " b", "b ", "b_c", "b\n", "b\u00ad", "\u00ad", "\u05d0b", "\u05d01", "\xff", "b\xff", "\uffff", "\x00", long + "h", strings.Repeat("é", 50) + "a", strings.Repeat("é", 51), long + "."} {
		rightIs(t, api.State{Hosts: []api.Host{{Name: name, Users: []api.User{{Name: "a"}}}}}, false)
		wrongs(t, func(h *api.Host, u *api.User) { h.Name = name })
	}
}

func TestNamesOfUsers(t *testing.T) {
	long := strings.Repeat("l", 64)
	for _, name := range []string{"a", "ab", "a.b", "a-b", "a_b", "-", ".", "1", "~", "!", `\`, ",", ";", "é", "日", "😀", "ss", "\u05d0", "\u05d01\u05d0", long, long[1:], strings.Repeat("é", 32), strings.Repeat("日", 21) + "a", strings.Repeat("😀", 16)} {
		rightIs(t, of(api.User{Name: name, Password: "p"}), true)
	}
	for _, name := range []string{"", "A", "aB", "É", "ß", "a b", " a", "a ", `"`, "a&", "'", "a/b", "/", "a:", "<", ">", "a@b", "@", "a@", "a\n", "\x00", "\t", "\x7f", "\u0080", "\u2003", "\ufffd", "\uffff", "\xff", "a\xff", "\xed\xa0\x80", "a\u00ad", "\u00ad", "\u200b", "\u05d0a", "a\u05d0", "\u05d01", long + "l", long + long, strings.Repeat("é", 32) + "a", strings.Repeat("é", 33), strings.Repeat("日", 22), strings.Repeat("😀", 16) + "a", strings.Repeat("é", 64)} {
		rightIs(t, of(api.User{Name: name, Password: "p"}), false)
		wrongs(t, func(h *api.Host, u *api.User) { u.Name = name })
	}
}

func TestPasswords(t *testing.T) {
	for _, sign := range []string{"x", "é", "日", "😀", " ", "A", "@", "/", "\"", "&", "\x7f", "\u0080", "\u2028", "\ufffd", "\u00ad", "\u05d0", "\U0001fffe"} {
		for _, n := range []int{0, 1, 2, 99, 100} {
			rights(t, func(h *api.Host, u *api.User) { u.Password = strings.Repeat(sign, n) })
		}
		for _, n := range []int{101, 102, 400, 10_000} {
			wrongs(t, func(h *api.Host, u *api.User) { u.Password = strings.Repeat(sign, n) })
		}
	}
	for _, sign := range []string{"\t", "\n", "\r", "\x00", "\x1f", "\xff", "\x80", "\xc3", "\xc0\x80", "\xed\xa0\x80", "\xf4\x90\x80\x80", "\ufffe", "\uffff"} {
		for _, s := range []string{sign, "a" + sign, sign + "é", strings.Repeat("a", 99) + sign} {
			wrongs(t, func(h *api.Host, u *api.User) { u.Password = s })
		}
	}
}

// named is a server whose hosts have these names.
func named(names ...string) api.State {
	var s api.State
	for _, name := range names {
		s.Hosts = append(s.Hosts, api.Host{Name: name})
	}
	return s
}

// usersOf are users of these names, each with a Password of its own.
func usersOf(names ...string) []api.User {
	var l []api.User
	for i, name := range names {
		l = append(l, api.User{Name: name, Password: fmt.Sprint(i)})
	}
	return l
}

// Names rise byte by byte, not as addresses do: the same one twice does not.
func TestNamesRise(t *testing.T) {
	for _, l := range [][]string{{"a", "b"}, {"a", "aa"}, {"a-b", "a.b", "aab"}, {"1", "a", "é"}, {"10", "9"}, {"z", "é", "日"}, {"a", "b", "c", "d", "e"}, {"b.a", "c"}} {
		rightIs(t, named(l...), true)
		rights(t, func(h *api.Host, u *api.User) { h.Users = usersOf(l...) })
		for i := range l[1:] {
			swapped, again := slices.Clone(l), slices.Clone(l)
			swapped[i], swapped[i+1] = l[i+1], l[i]
			again[i+1] = l[i]
			for _, x := range [][]string{swapped, again} {
				rightIs(t, named(x...), false)
				wrongs(t, func(h *api.Host, u *api.User) { h.Users = usersOf(x...) })
			}
		}
	}
	// An "@" in a name of a user may not be; elsewhere one host's users play no part in another's.
	rightIs(t, api.State{Hosts: []api.Host{{Name: "a", Users: usersOf("x", "y")}, {Name: "b", Users: usersOf("a", "x")}}}, true)
}

// What is wrong is so at any place, in any host and any user.
func TestEachPlace(t *testing.T) {
	for i, h := range verona().Hosts {
		wrong := func(set func(h *api.Host)) {
			t.Helper()
			s := verona()
			set(&s.Hosts[i])
			rightIs(t, s, false)
		}
		wrong(func(h *api.Host) { h.Name += "." })
		wrong(func(h *api.Host) { h.Name = strings.ToUpper(h.Name) })
		wrong(func(h *api.Host) { h.Users = usersOf(numbers(21)...) })
		wrong(func(h *api.Host) { h.Users = append(h.Users, api.User{Name: "0"}, api.User{Name: "0"}) })
		for k, u := range h.Users {
			wrongUser := func(set func(u *api.User)) {
				t.Helper()
				wrong(func(h *api.Host) { set(&h.Users[k]) })
			}
			wrongUser(func(u *api.User) { u.Name += "@" })
			wrongUser(func(u *api.User) { u.Name = strings.ToUpper(u.Name) })
			wrongUser(func(u *api.User) { u.Password = "\n" })
			wrongUser(func(u *api.User) { u.Items = append(u.Items, api.Item{Jid: "0"}, api.Item{Jid: "0"}) })
			wrongUser(func(u *api.User) { u.Pending = append(u.Pending, "\xff") })
			for n := range u.Items {
				wrongUser(func(u *api.User) { u.Items[n].Jid += "/r" })
				wrongUser(func(u *api.User) { u.Items[n].Name = "\n" })
				wrongUser(func(u *api.User) { u.Items[n].Groups = []string{"b", "a"} })
				wrongUser(func(u *api.User) { u.Items[n].Sub = 4 })
			}
			for n := range u.Pending {
				wrongUser(func(u *api.User) { u.Pending[n] += "/r" })
				wrongUser(func(u *api.User) { u.Pending[n] = strings.ToUpper(u.Pending[n]) })
			}
		}
	}
}

// itemsOf are items of these Jids.
func itemsOf(jids ...string) []api.Item {
	var l []api.Item
	for _, s := range jids {
		l = append(l, api.Item{Jid: s})
	}
	return l
}

// Those of one domain stand together, in a roster and among those who wait: the same one twice does not rise.
func TestAddressesRise(t *testing.T) {
	for _, l := range [][]string{{"z@a", "a@b"}, {"a", "b@a", "a@b"}, {"a", "b"}, {"a", "a@a", "b@a", "c@a"}, {"a@b", "b"}, {"a@a", "aa@a"}, {"z@a-b", "y@a.b", "x@aab"}, {"z@b", "é@b"}, {"1@b", "a@b", "z@b", "日@b"}} {
		rights(t, func(h *api.Host, u *api.User) { u.Items, u.Pending = itemsOf(l...), nil })
		rights(t, func(h *api.Host, u *api.User) { u.Items, u.Pending = nil, l })
		rights(t, func(h *api.Host, u *api.User) { u.Items, u.Pending = itemsOf(l...), l })
		for i := range l[1:] {
			swapped, again := slices.Clone(l), slices.Clone(l)
			swapped[i], swapped[i+1] = l[i+1], l[i]
			again[i+1] = l[i]
			for _, x := range [][]string{swapped, again} {
				wrongs(t, func(h *api.Host, u *api.User) { u.Items, u.Pending = itemsOf(x...), nil })
				wrongs(t, func(h *api.Host, u *api.User) { u.Items, u.Pending = nil, x })
			}
		}
	}
}

func TestThoseWhoWait(t *testing.T) {
	local, host := strings.Repeat("l", 64), strings.Repeat("h", 100)
	for _, s := range []string{"b", "a@b", "a@b.c", "é@é", "\u05d0@\u05d0", "1@1", local + "@b", local + "@" + host} {
		rights(t, func(h *api.Host, u *api.User) { u.Items, u.Pending = nil, []string{s} })
		rights(t, func(h *api.Host, u *api.User) { u.Items, u.Pending = nil, []string{"0", s} })
	}
	for _, s := range []string{"", "B", "A@b", "a@B", "a@b.", "b.", "ß@b", "a@b/c", "a@b/", "b/c", "/", "@", "a@", "@b", "a b@c", " a@b", "a@b ", "a@b@c", "a@\u05d01", "\xff", "\xff@b", "a@b\n", "\u00ada@b", "a@-b", "a@b..c", "xmpp:a@b", "l" + local + "@b", host + "h"} {
		wrongs(t, func(h *api.Host, u *api.User) { u.Items, u.Pending = nil, []string{s} })
		wrongs(t, func(h *api.Host, u *api.User) { u.Items, u.Pending = nil, []string{"0", s} })
		wrongs(t, func(h *api.Host, u *api.User) { u.Items, u.Pending = nil, []string{s, "é@é"} })
	}
}

// Who is let already, or ahead, does not wait; who is seen, or asked, may.
func TestWhoIsLetDoesNotWait(t *testing.T) {
	for _, r := range []struct {
		sub           int
		ask, approved bool
		want          bool
	}{
		{sub: api.None, want: true}, {sub: api.None, ask: true, want: true}, {sub: api.To, want: true},
		{sub: api.None, approved: true}, {sub: api.None, ask: true, approved: true}, {sub: api.To, approved: true},
		{sub: api.From}, {sub: api.From, ask: true}, {sub: api.Both},
	} {
		jids := []string{"b", "x@b", "y@b", "z@b", "c"}
		for i, s := range jids {
			l := itemsOf(jids...)
			l[i].Sub, l[i].Ask, l[i].Approved = r.sub, r.ask, r.approved
			for k := range jids {
				for _, pending := range [][]string{jids[:k], jids[k:], jids[k : k+1]} {
					for _, x := range turned(func(h *api.Host, u *api.User) { u.Items, u.Pending = l, pending }) {
						rightIs(t, x, r.want || !slices.Contains(pending, s))
					}
				}
			}
		}
		// Another user's roster plays no part.
		l := []api.Item{{Jid: "b", Sub: r.sub, Ask: r.ask, Approved: r.approved}}
		rightIs(t, api.State{Hosts: []api.Host{{Name: "h", Users: []api.User{{Name: "a", Items: l}, {Name: "b", Pending: []string{"b"}}}}}}, true)
	}
}

// Whatever one thing is wrong, it is so beside right ones and wrong ones.
func TestEachWithEach(t *testing.T) {
	for _, host := range []string{"b", "", "B", "b."} {
		for _, name := range []string{"a", "", "A", "a@", "\xff"} {
			for _, password := range []string{"", "p", "\n"} {
				for _, l := range [][]api.Item{nil, itemsOf("x"), itemsOf("x", "y"), itemsOf("y", "x"), itemsOf("x", "x"), itemsOf("X"), {{Jid: "x", Sub: api.Both}}, {{Jid: "x", Approved: true}}, {{Jid: "x", Sub: api.Both, Ask: true}}, {{Jid: "x", Sub: 4}}} {
					for _, pending := range [][]string{nil, {"x"}, {"x", "y"}, {"y", "x"}, {"x", "x"}, {"X"}, {"y"}} {
						u := api.User{Name: name, Password: password, Items: l, Pending: pending}
						s := api.State{Hosts: []api.Host{{Name: host, Users: []api.User{u}}}}
						rightIs(t, s, toldRight(s))
					}
				}
			}
		}
	}
}

// Each sign up to 66,000, and each byte, in each place.
func TestEachSign(t *testing.T) {
	for c := range rune(66_256) {
		sign := string(c)
		if c >= 66_000 {
			sign = string([]byte{byte(c - 66_000)})
		}
		for _, s := range []api.State{named(sign), of(api.User{Name: sign}), of(api.User{Name: "a", Password: sign}), of(api.User{Name: "a", Pending: []string{sign + "@b"}})} {
			if Right(s) != toldRight(s) {
				t.Fatalf("P16.1: Right(%s): %v", show(s), Right(s))
			}
		}
	}
}

// oddTexts are texts, and what is none, that may be where something is asked for, or not.
var oddTexts = []string{"", "A", " ", "\n", "\x00", "é", "ß", "日", "\u00ad", "\u05d0", "\xff", "\uffff", "@", "/", ".", "a@b", "a@b@c", "b@c", "a/b", "a.", "-", strings.Repeat("a", 64), strings.Repeat("a", 65), strings.Repeat("é", 100), strings.Repeat("é", 101)}

// chanceName is a name, most of which may be.
func chanceName(chance *rand.Rand) string {
	return by(chance, "a", "b", "c", "d", by(chance, "a", "b", "c", by(chance, oddTexts...)))
}

// chanceAddress is an address, most of which may be.
func chanceAddress(chance *rand.Rand) string {
	return by(chance, "a", "b", "c", "d@a", "c@a", "b@b", "a@c", "a@a", "d@b", "c@c", by(chance, oddTexts...))
}

// chanceUser is a user, most of whom may be.
func chanceUser(chance *rand.Rand) api.User {
	u := api.User{Name: chanceName(chance), Password: by(chance, "", "p", "q", by(chance, "r", by(chance, oddTexts...)))}
	for range chance.Intn(6) {
		sub := chance.Intn(4)
		u.Items = append(u.Items, api.Item{Jid: by(chance, "a", "b@a", chanceAddress(chance)), Name: by(chance, "", "n"), Groups: by(chance, nil, []string{"g"}, []string{"f", "g"}), Sub: sub, Ask: sub%2 == 0 && chance.Intn(3) == 0, Approved: sub < 2 && chance.Intn(3) == 0})
	}
	for range chance.Intn(4) {
		u.Pending = append(u.Pending, chanceAddress(chance))
	}
	return u
}

// chanceState is a server, put in order as often as not, and then with none of the same name twice as often as not.
func chanceState(chance *rand.Rand) api.State {
	var s api.State
	for range chance.Intn(4) {
		h := api.Host{Name: chanceName(chance)}
		for range chance.Intn(4) {
			h.Users = append(h.Users, chanceUser(chance))
		}
		s.Hosts = append(s.Hosts, h)
	}
	if chance.Intn(3) == 0 {
		return s
	}
	s = toldSort(s)
	if chance.Intn(3) > 0 {
		s.Hosts = slices.CompactFunc(s.Hosts, func(a, b api.Host) bool { return a.Name == b.Name })
		for i, h := range s.Hosts {
			s.Hosts[i].Users = slices.CompactFunc(h.Users, func(a, b api.User) bool { return a.Name == b.Name })
			for k, u := range s.Hosts[i].Users {
				s.Hosts[i].Users[k].Items = slices.CompactFunc(u.Items, func(a, b api.Item) bool { return a.Jid == b.Jid })
			}
		}
	}
	return s
}

func TestServersByChance(t *testing.T) {
	chance := rand.New(rand.NewSource(16))
	var how [2]int
	for range 10_000 {
		s := chanceState(chance)
		hold(t, s, "", "@", "a", "a@b@c", chanceName(chance)+"@"+chanceName(chance))
		if Right(s) {
			how[1]++
			sortIs(t, s, s)
		} else {
			how[0]++
		}
	}
	if min(how[0], how[1]) < 1_000 {
		t.Errorf("of the servers %d are wrong, and %d right: too few", how[0], how[1])
	}
}
