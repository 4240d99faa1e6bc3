package item

import (
	"math/rand"
	"slices"
	"strconv"
	"strings"
	"testing"

	"cardex/api"
	"cardex/jid"
)

// Of things of another kind, too: those alike stay in their order, be they few or many.
func TestOrdered(t *testing.T) {
	type pair struct{ key, no int }
	below := func(a, b pair) bool { return a.key > b.key }
	for _, n := range []int{0, 1, 2, 3, 12, 13, 20, 21, 100, 1_000} {
		for _, keys := range []int{1, 2, 3, 7, 1_000} {
			var l []pair
			for i := range n {
				l = append(l, pair{i * 7 % keys, i})
			}
			was := slices.Clone(l)
			all := ordered(l, below)
			for i := range max(len(all), 1) - 1 {
				if a, b := all[i], all[i+1]; a.key < b.key || a.key == b.key && a.no > b.no {
					t.Fatalf("ordered: of %d with %d keys %v stands ahead of %v", n, keys, a, b)
				}
			}
			if len(all) != n || !slices.Equal(l, was) {
				t.Fatalf("ordered: %d of %d, and they were %v, and are %v", len(all), n, was, l)
			}
		}
	}
}

func TestGroups(t *testing.T) {
	groupsAre(t, nil)
	groupsAre(t, []string{})
	groupsAre(t, []string{"b", "a", "b"}, "a", "b")
	groupsAre(t, []string{"Friends", "Family", "", "Friends"}, "Family", "Friends")
	groupsAre(t, []string{""})
	groupsAre(t, []string{"", "", ""})
	groupsAre(t, []string{"", "a"}, "a")
	groupsAre(t, []string{"a", ""}, "a")
	groupsAre(t, []string{"a"}, "a")
	groupsAre(t, []string{"a", "a"}, "a")
	groupsAre(t, []string{"a", "b"}, "a", "b")
	groupsAre(t, []string{"a", "b", "c"}, "a", "b", "c")
	groupsAre(t, []string{"c", "b", "a"}, "a", "b", "c")
}

// Byte by byte, and whatever they are: nothing but "" is left out.
func TestGroupsAreBytes(t *testing.T) {
	groupsAre(t, []string{"a", "B", "b", "A"}, "A", "B", "a", "b")
	groupsAre(t, []string{"aa", "a", "ab", "a "}, "a", "a ", "aa", "ab")
	groupsAre(t, []string{"9", "10", "1"}, "1", "10", "9")
	groupsAre(t, []string{"😀", "é", "z", "日"}, "z", "é", "日", "😀")
	groupsAre(t, []string{"\U00010000", "\ufffd"}, "\ufffd", "\U00010000")
	groupsAre(t, []string{"e\u0301", "é"}, "e\u0301", "é")
	groupsAre(t, []string{"\xff", "\x00", "\n", " ", "", "\xff", "\x80"}, "\x00", "\n", " ", "\x80", "\xff")
	long := strings.Repeat("é", 101)
	groupsAre(t, []string{long + "b", long + "a", long}, long, long+"a", long+"b")
}

// How many there may be is not asked.
func TestManyGroups(t *testing.T) {
	var l, want []string
	for i := range 3_000 {
		l = append(l, strconv.Itoa(i*7%1_000), "")
	}
	for i := range 1_000 {
		want = append(want, strconv.Itoa(i))
	}
	slices.Sort(want)
	groupsAre(t, l, want...)
	groupsAre(t, want, want...)
	slices.Reverse(want)
	groupsAre(t, want, Groups(l)...)
	groupsAre(t, make([]string, 3_000))
	groupsAre(t, slices.Repeat([]string{"a"}, 3_000), "a")
	groupsAre(t, []string{"9", "8", "7", "6", "5", "4", "3", "2", "1"}, "1", "2", "3", "4", "5", "6", "7", "8", "9")
}

func TestAllShortGroups(t *testing.T) {
	for _, l := range rowsOf(6, "", "a", "b", "B", "aa") {
		groupsAre(t, l, toldGroups(l)...)
	}
}

// What Groups tells is what an item may have, if each is a line and they are not too many.
func TestGroupsAreRight(t *testing.T) {
	for _, l := range rowsOf(5, "", "a", "b", "c", "é") {
		rightIs(t, api.Item{Jid: "b", Groups: Groups(l)}, true)
		rightIs(t, api.Item{Jid: "b", Groups: l}, slices.Equal(l, Groups(l)))
	}
}

// numbered are items of jids, each of another Name, and with Groups of its own.
func numbered(jids ...string) []api.Item {
	var l []api.Item
	for i, s := range jids {
		no := strconv.Itoa(i)
		l = append(l, api.Item{Jid: s, Name: no, Groups: []string{"g" + no, "h"}, Sub: i % 4, Ask: i%3 == 0, Approved: i%5 == 0})
	}
	return l
}

// standSo holds that of items of jids Sort tells those at the places at, in this order.
func standSo(t *testing.T, jids string, at ...int) {
	t.Helper()
	l := numbered(strings.Split(jids, "|")...)
	var want []api.Item
	for _, i := range at {
		want = append(want, l[i])
	}
	sortIs(t, l, want...)
	hold(t, l, "", "a", "~", "A@a")
}

// Those of one domain stand together.
func TestSort(t *testing.T) {
	standSo(t, "romeo@example.net|juliet@example.org|conference.example.org|nurse@example.org|example.net", 2, 4, 0, 1, 3)
	standSo(t, "a", 0)
	standSo(t, "a|b", 0, 1)
	standSo(t, "b|a", 1, 0)
	standSo(t, "z@a|a@b", 0, 1)
	standSo(t, "a@b|z@a", 1, 0)
	standSo(t, "b@a|a@b|a|a@a", 2, 3, 0, 1)
	standSo(t, "c|b@c|a@c|c@b", 3, 2, 1, 0)
	standSo(t, "a@b.c|a@b|a@bb|b.c", 1, 0, 3, 2)
	standSo(t, "é@b|z@b|日@a|😀@a", 2, 3, 1, 0)
}

func TestSortNothing(t *testing.T) {
	sortIs(t, nil)
	sortIs(t, []api.Item{})
	sortIs(t, []api.Item{{}}, api.Item{})
	hold(t, nil, "", "a")
}

// Those of one Jid in their order.
func TestSortAlike(t *testing.T) {
	standSo(t, "a|a", 0, 1)
	standSo(t, "a|a|a", 0, 1, 2)
	standSo(t, "b|a|b|a", 1, 3, 0, 2)
	standSo(t, "b@a|a@b|b@a|a|a@a", 3, 4, 0, 2, 1)
	a, b := api.Item{Jid: "a", Name: "n"}, api.Item{Jid: "b"}
	sortIs(t, []api.Item{b, a, a}, a, a, b)
}

// What is no right item is sorted as well, and as it is: nothing is made small, no group put elsewhere.
func TestSortWrongItems(t *testing.T) {
	standSo(t, "a|A|B@a|a@B|", 4, 1, 3, 2, 0)
	standSo(t, "@|b@|@b|a@b@c|\xff|/|a@b/c", 0, 1, 5, 2, 6, 3, 4)
	x := api.Item{Jid: "a@b/c", Name: "\n\xff", Groups: []string{"b", "", "a", "b", "\xff"}, Sub: -7, Ask: true, Approved: true}
	y := api.Item{Jid: "A.", Groups: slices.Repeat([]string{"z", ""}, 50), Sub: 99}
	sortIs(t, []api.Item{x, y, x}, y, x, x)
	findIs(t, []api.Item{y, x}, "a@b/c", x, true)
	findIs(t, []api.Item{x, y}, "A.", y, true)
	findIs(t, []api.Item{x, y}, "a", api.Item{}, false)
	findIs(t, []api.Item{x, y}, "a@b", api.Item{}, false)
}

// More than MaxItems, and many alike.
func TestSortMany(t *testing.T) {
	jids := []string{"b@a", "a@b", "a", "a@a", "c", "\xff@a", ""}
	for _, n := range []int{11, 12, 13, 19, 20, 21, 40, 60, 61, 400} {
		for _, kinds := range []int{1, 2, 3, 7} {
			var l []string
			for i := range n {
				l = append(l, jids[i*i*5%kinds])
			}
			hold(t, numbered(l...))
			slices.Reverse(l)
			hold(t, numbered(l...))
			slices.Sort(l)
			hold(t, numbered(l...))
		}
	}
}

func TestAllShortLists(t *testing.T) {
	for _, jids := range rowsOf(5, "a", "b", "b@a", "a@b", "B@a") {
		hold(t, numbered(jids...), "", "A", "a@a")
	}
	for _, jids := range rowsOf(3, "", "@", "a@", "@a", "a@b@c", "a@b/c", "b/c", "\xff", "é@b", "a.b", "a@b.") {
		hold(t, numbered(jids...), "a", "b@c", "a@b")
	}
}

func TestListsByChance(t *testing.T) {
	chance := rand.New(rand.NewSource(4))
	for range 3_000 {
		var l []api.Item
		for range chance.Intn(40) {
			l = append(l, chanceItem(chance))
		}
		hold(t, l, "", "b", "a@b", "c")
	}
}

// What is right, and sorted, stands as a roster does: by jid.Less.
func TestSortedRises(t *testing.T) {
	chance := rand.New(rand.NewSource(5))
	var jids []string
	for _, domain := range []string{"a", "b", "b.a", "a-b", "é"} {
		for _, local := range []string{"", "a@", "b@", "a.b@", "é@", "z@", "1@"} {
			jids = append(jids, local+domain)
		}
	}
	for range 200 {
		chance.Shuffle(len(jids), func(i, j int) { jids[i], jids[j] = jids[j], jids[i] })
		l := Sort(numbered(jids...))
		for i := range l[1:] {
			if !jid.Less(l[i].Jid, l[i+1].Jid) {
				t.Fatalf("P14.1: Sort: %q stands ahead of %q", l[i].Jid, l[i+1].Jid)
			}
		}
		for _, s := range jids {
			if x, is := Find(l, s); !is || x.Jid != s {
				t.Fatalf("P14.1: Find of %q in what is sorted: %s, %v", s, show(x), is)
			}
		}
	}
}

func TestFind(t *testing.T) {
	l := numbered("b@a", "a@b", "b@a", "a", "a@a", "a")
	for s, at := range map[string]int{"b@a": 0, "a@b": 1, "a": 3, "a@a": 4} {
		findIs(t, l, s, l[at], true)
		findIs(t, l[at:at+1], s, l[at], true)
		findIs(t, slices.Concat(l[at:], l), s, l[at], true)
	}
	findIs(t, l[1:], "b@a", l[2], true)
	findIs(t, l[4:], "a", l[5], true)
	findIs(t, []api.Item{{Name: "n"}}, "", api.Item{Name: "n"}, true)
	findIs(t, []api.Item{{Name: "n"}, {}}, "", api.Item{Name: "n"}, true)
}

// A Jid is found byte by byte: what would be kept as it is another one.
func TestFindNone(t *testing.T) {
	l := numbered("b@a", "a@b", "a", "a@a")
	for _, s := range []string{"", "b", "B@a", "b@A", "b@a/c", "b@a.", "A", "a.", "a@", "@a", "a@a ", " a@a", "a@aa", "a@", "\u00ada", "\xff", "0", "g0", "h"} {
		findIs(t, l, s, api.Item{}, false)
		findIs(t, nil, s, api.Item{}, false)
		findIs(t, []api.Item{}, s, api.Item{}, false)
	}
	// What is behind the list's end is not there.
	findIs(t, l[:1], "a", api.Item{}, false)
	findIs(t, l[1:], "b@a", api.Item{}, false)
}

// Items that share one list of groups, or pieces of one, share none in what is answered.
func TestGroupsThatAreShared(t *testing.T) {
	groups := []string{"a", "b", "c", "d"}
	l := []api.Item{{Jid: "b", Groups: groups}, {Jid: "a", Groups: groups}, {Jid: "c", Groups: groups[:2]}, {Jid: "a", Groups: groups[1:]}, {Jid: "d", Groups: groups[:0]}}
	got := Sort(l)
	for i := range got {
		scribbleGroups(got[i])
		for _, x := range got[i+1:] {
			if slices.Contains(x.Groups, "x") {
				t.Fatalf("R3: Sort: the groups of %q are others' too", x.Jid)
			}
		}
	}
	found, _ := Find(l, "b")
	scribbleGroups(found)
	if !slices.Equal(groups, []string{"a", "b", "c", "d"}) {
		t.Fatalf("R3: the groups that were given are %q now", groups)
	}
	one, _ := Find(l, "a")
	two, _ := Find(l, "a")
	scribbleGroups(one)
	if !slices.Equal(two.Groups, groups) || !slices.Equal(Sort(l)[0].Groups, groups) {
		t.Fatal("R3: two answers share their groups")
	}
}

// What is added behind the end of a list that was answered is in no other one.
func TestRoomBehindAnswers(t *testing.T) {
	l := numbered("b", "a", "c")
	one, two := Sort(l), Sort(l)
	_ = append(one[:1], api.Item{Jid: "x"})
	_ = append(one[2].Groups[:1], "x")
	if !sameItems(two, toldSort(l)) || !sameItems(l, numbered("b", "a", "c")) {
		t.Fatalf("R3: Sort: %s", show(two))
	}
	groups := []string{"c", "", "a", "b"}
	some, others := Groups(groups), Groups(groups)
	_ = append(some[:1], "x")
	_ = append(some[:3], "y")
	if !slices.Equal(others, []string{"a", "b", "c"}) || !slices.Equal(groups, []string{"c", "", "a", "b"}) {
		t.Fatalf("R3: Groups: %q, of %q", others, groups)
	}
}

// What is answered hangs on the arguments alone.
func TestAlwaysAlike(t *testing.T) {
	l := numbered("b@a", "a@b", "b@a", "a", "a@a", "a")
	sorted, groups := Sort(l), Groups([]string{"b", "a"})
	for range 100 {
		Sort(numbered("z", "a"))
		Groups([]string{"q", ""})
		Find(l, "a@b")
		Right(l[0])
		if !sameItems(Sort(l), sorted) || !slices.Equal(Groups([]string{"b", "a"}), groups) {
			t.Fatal("R2: Sort or Groups answer otherwise")
		}
	}
}
