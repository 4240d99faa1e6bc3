package item

import (
	"math"
	"math/rand"
	"slices"
	"strings"
	"testing"

	"cardex/api"
	"cardex/jid"
)

// bases are items that are right: one that has nothing but a Jid, and some that have something everywhere.
func bases() []api.Item {
	return []api.Item{
		{Jid: "b"},
		{Jid: "a@b", Name: "n", Groups: []string{"f", "g"}, Ask: true, Approved: true},
		{Jid: "a@b", Name: "n", Groups: []string{"f", "g"}, Sub: api.To, Approved: true},
		{Jid: "a@b", Name: "n", Groups: []string{"f", "g"}, Sub: api.From, Ask: true},
		{Jid: "a@b.c", Name: "n", Groups: []string{"f", "g"}, Sub: api.Both},
	}
}

// rights holds that what set makes of right items is right.
func rights(t *testing.T, set func(x *api.Item)) {
	t.Helper()
	for _, x := range bases() {
		set(&x)
		rightIs(t, x, true)
	}
}

// wrongs holds that what set makes of right items is not.
func wrongs(t *testing.T, set func(x *api.Item)) {
	t.Helper()
	for _, x := range bases() {
		set(&x)
		rightIs(t, x, false)
	}
}

func TestOrdinaryItems(t *testing.T) {
	rights(t, func(x *api.Item) {})
	rightIs(t, api.Item{Jid: "juliet@example.org", Name: "Juliet Capulet", Groups: []string{"Family", "Friends"}, Sub: api.Both}, true)
	rightIs(t, api.Item{Jid: "romeo@example.net", Name: "Romeo", Ask: true}, true)
	rightIs(t, api.Item{Jid: "nurse@example.org", Sub: api.To}, true)
	rightIs(t, api.Item{Jid: "conference.example.org", Sub: api.From, Groups: []string{"Rooms"}}, true)
}

// What has no Jid is no item.
func TestNothing(t *testing.T) {
	rightIs(t, api.Item{}, false)
	rightIs(t, api.Item{Name: "n", Groups: []string{"g"}, Sub: api.Both}, false)
}

func TestJids(t *testing.T) {
	host, local := strings.Repeat("h", 100), strings.Repeat("l", 64)
	for _, s := range []string{"b", "a@b", "a@b.c", "a.b@c", `a;,\b@c`, "ss@b", local + "@b", "a@" + host, local + "@" + host, host, "1@1", "é@é", "\u05d0@\u05d0"} {
		rights(t, func(x *api.Item) { x.Jid = s })
	}
	for _, s := range []string{"", "A@b", "a@B", "B", "ß@b", "a@ß", "a@b.", "b.", "É@b", "\u00ada@b", "a@b\u00ad", "a@b/c", "a@b/", "b/c", "b/", "/", "@", "a@", "@b", ".", "-", " ", "a b@c", " a@b", "a@b ", "a@b_", "a@b@c", "a@\u05d01", "\u05d0a@b", "\xff", "a@\xff", "\xff@b", "a@b\n", "a@b\x00", "\uffff@b", "a@-b", "a@b-", "a@b..c", "a@.b", "xmpp:a@b", "l" + local + "@b", host + "h", "a@" + host + "h", local + "@" + host + "h", local + "@" + host + "/r"} {
		wrongs(t, func(x *api.Item) { x.Jid = s })
	}
}

// lineSigns are signs of one to four bytes that may be in a line.
var lineSigns = []string{"x", "é", "日", "😀", " ", ",", ";", `\`, "/", "@", "\x7f", "\u0080", "\u0085", "\u2028", "\ufffd", "\u00ad", "\U0001fffe"}

// noLines are signs below the blank, and what is no text.
var noLines = []string{"\t", "\n", "\r", "\r\n", "\x00", "\x01", "\x08", "\x0b", "\x0c", "\x0e", "\x1f", "\xff", "\x80", "\xc3", "\xc0\x80", "\xed\xa0\x80", "\xf4\x90\x80\x80", "\ufffe", "\uffff"}

// lineAsked holds that set puts a line of at most MaxString characters, of however many bytes.
func lineAsked(t *testing.T, set func(x *api.Item, s string)) {
	t.Helper()
	for _, sign := range lineSigns {
		for _, n := range []int{1, 2, 99, 100} {
			rights(t, func(x *api.Item) { set(x, strings.Repeat(sign, n)) })
		}
		for _, n := range []int{101, 102, 400, 10_000} {
			wrongs(t, func(x *api.Item) { set(x, strings.Repeat(sign, n)) })
		}
		wrongs(t, func(x *api.Item) { set(x, strings.Repeat("é", 100)+sign) })
		wrongs(t, func(x *api.Item) { set(x, sign+strings.Repeat("x", 100)) })
	}
	for _, s := range noLines {
		for _, whole := range []string{s, "a" + s, s + "é", strings.Repeat("a", 98) + s, strings.Repeat("a", 99) + s, strings.Repeat("a", 100) + s} {
			wrongs(t, func(x *api.Item) { set(x, whole) })
		}
	}
}

func TestNames(t *testing.T) {
	rights(t, func(x *api.Item) { x.Name = "" })
	lineAsked(t, func(x *api.Item, s string) { x.Name = s })
}

// Each group is a line, alone, and as the first, a middle, and the last one of others.
func TestEachGroup(t *testing.T) {
	lineAsked(t, func(x *api.Item, s string) { x.Groups = []string{s} })
	for _, n := range []int{1, 2, 6, 7} {
		lineAsked(t, func(x *api.Item, s string) {
			l := append([]string{s}, strings.Split("3|5|J|Z|a|m|z", "|")[:n]...)
			slices.Sort(l)
			x.Groups = l
		})
	}
}

func TestNoGroupIsEmpty(t *testing.T) {
	for _, l := range [][]string{{""}, {"", ""}, {"", "a"}, {"a", ""}, {"", "a", "b"}, {"a", "", "b"}, {"a", "b", ""}, {"", "1", "2", "3", "4", "5", "6", "7"}} {
		wrongs(t, func(x *api.Item) { x.Groups = l })
	}
}

func TestHowManyGroups(t *testing.T) {
	l := []string{"1", "2", "3", "4", "5", "6", "7", "8", "9"}
	rights(t, func(x *api.Item) { x.Groups = []string{} })
	for n := range 9 {
		rights(t, func(x *api.Item) { x.Groups = l[:n] })
		rights(t, func(x *api.Item) { x.Groups = l[9-n:] })
	}
	wrongs(t, func(x *api.Item) { x.Groups = l })
	for _, n := range []int{10, 16, 17, 100, 1_000} {
		more := make([]string, n)
		for i := range more {
			more[i] = string(rune('A' + i))
		}
		wrongs(t, func(x *api.Item) { x.Groups = more })
		wrongs(t, func(x *api.Item) { x.Groups = slices.Repeat([]string{"a"}, n) })
	}
	// Of these only eight are left once each is there once: but nine are given.
	wrongs(t, func(x *api.Item) { x.Groups = append([]string{"1"}, l[:8]...) })
	wrongs(t, func(x *api.Item) { x.Groups = append([]string{""}, l[:8]...) })
}

// Groups rise byte by byte: the same one twice does not.
func TestGroupsRise(t *testing.T) {
	for _, l := range [][]string{{"A", "a"}, {"Z", "a"}, {"a", "aa"}, {"a", "a "}, {"a", "ab", "b"}, {"10", "9"}, {" ", "!"}, {"a", "é"}, {"z", "é", "日", "😀"}, {"\ufffd", "\U00010000"}, {"a", "b", "c", "d", "e", "f", "g", "h"}} {
		rights(t, func(x *api.Item) { x.Groups = l })
		turned := slices.Clone(l)
		slices.Reverse(turned)
		wrongs(t, func(x *api.Item) { x.Groups = turned })
		for i, group := range l {
			if len(l) < 8 {
				wrongs(t, func(x *api.Item) { x.Groups = slices.Insert(slices.Clone(l), i, group) })
			}
			if i > 0 {
				swapped := slices.Clone(l)
				swapped[i-1], swapped[i] = swapped[i], swapped[i-1]
				wrongs(t, func(x *api.Item) { x.Groups = swapped })
				again := slices.Clone(l)
				again[i-1] = again[i]
				wrongs(t, func(x *api.Item) { x.Groups = again })
			}
		}
	}
}

// Each Sub with and without Ask and Approved: nine of them are right.
func TestSubscriptions(t *testing.T) {
	for _, r := range []struct {
		sub                          int
		alone, ask, approved, bothOf bool
	}{
		{api.None, true, true, true, true}, {api.To, true, false, true, false}, {api.From, true, true, false, false}, {api.Both, true, false, false, false},
		{-1, false, false, false, false}, {4, false, false, false, false}, {5, false, false, false, false}, {8, false, false, false, false}, {-3, false, false, false, false}, {256, false, false, false, false}, {1 << 32, false, false, false, false}, {math.MinInt, false, false, false, false}, {math.MaxInt, false, false, false, false},
	} {
		for _, s := range []struct{ ask, approved, want bool }{{false, false, r.alone}, {true, false, r.ask}, {false, true, r.approved}, {true, true, r.bothOf}} {
			for _, x := range bases() {
				x.Sub, x.Ask, x.Approved = r.sub, s.ask, s.approved
				rightIs(t, x, s.want)
			}
		}
	}
}

// Whatever one thing is wrong, it is so beside right ones and wrong ones.
func TestEachWithEach(t *testing.T) {
	for _, s := range []string{"b", "a@b", "", "A@b", "a@b/c", "\xff"} {
		for _, name := range []string{"", "n", "\n", strings.Repeat("n", 101), "\xff"} {
			for _, groups := range [][]string{nil, {"a"}, {"a", "b"}, {"a", "a"}, {"b", "a"}, {""}, {"\xff"}, {"\n"}, {"1", "2", "3", "4", "5", "6", "7", "8", "9"}} {
				for sub := -2; sub < 6; sub++ {
					for both := range 4 {
						x := api.Item{Jid: s, Name: name, Groups: groups, Sub: sub, Ask: both&1 > 0, Approved: both&2 > 0}
						rightIs(t, x, toldRight(x))
					}
				}
			}
		}
	}
}

// Each odd text in each place.
func TestOddTexts(t *testing.T) {
	for _, s := range oddTexts() {
		for _, x := range bases() {
			for _, set := range []func(){func() { x.Jid = s }, func() { x.Jid = "b"; x.Name = s }, func() { x.Name = ""; x.Groups = []string{s} }} {
				set()
				rightIs(t, x, toldRight(x))
			}
		}
	}
}

// Each sign up to 66,000, and each byte, in each place.
func TestEachSign(t *testing.T) {
	signs := make([]string, 0, 66_300)
	for c := range rune(66_000) {
		signs = append(signs, string(c))
	}
	for b := range 256 {
		signs = append(signs, string([]byte{byte(b)}))
	}
	for _, sign := range signs {
		for _, x := range []api.Item{{Jid: sign + "@b"}, {Jid: "b", Name: "a" + sign}, {Jid: "b", Groups: []string{sign}}} {
			if Right(x) != toldRight(x) {
				t.Fatalf("P14.1: Right(%s): %v", show(x), Right(x))
			}
		}
	}
}

// All rows of up to four groups, and some of up to nine.
func TestRowsOfGroups(t *testing.T) {
	for _, l := range rowsOf(4, "", "a", "b", "aa", "B", "\xff", "é", "\n") {
		x := api.Item{Jid: "b", Groups: l}
		rightIs(t, x, toldRight(x))
	}
	for _, l := range rowsOf(9, "a", "b") {
		rightIs(t, api.Item{Jid: "b", Groups: l}, len(l) == 0 || len(l) == 1 || len(l) == 2 && l[0] < l[1])
	}
}

// by is one of l, by chance.
func by[T any](chance *rand.Rand, l ...T) T { return l[chance.Intn(len(l))] }

// chanceItem is an item, most of which is right.
func chanceItem(chance *rand.Rand) api.Item {
	odd := oddTexts()
	x := api.Item{Jid: by(chance, "b", "a@b", "z@a", "B@b", by(chance, odd...)), Name: by(chance, "", "n", by(chance, odd...)), Sub: chance.Intn(5), Ask: chance.Intn(3) == 0, Approved: chance.Intn(3) == 0}
	for range chance.Intn(5) {
		x.Groups = append(x.Groups, by(chance, "a", "b", "c", "d", by(chance, odd...)))
	}
	if chance.Intn(2) == 0 {
		x.Groups = toldGroups(x.Groups)
	}
	return x
}

func TestItemsByChance(t *testing.T) {
	chance := rand.New(rand.NewSource(14))
	var how [2]int
	for range 40_000 {
		x := chanceItem(chance)
		rightIs(t, x, toldRight(x))
		if Right(x) {
			how[1]++
			x.Jid, _ = jid.Bare(x.Jid)
			rightIs(t, x, true)
		} else {
			how[0]++
		}
	}
	if min(how[0], how[1]) < 2_000 {
		t.Errorf("of the items %d are wrong, and %d right: too few", how[0], how[1])
	}
}
