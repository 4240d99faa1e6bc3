package machine

import (
	"slices"
	"testing"

	"cardex/api"
	"cardex/item"
)

// ofIs holds that Of tells of an item of sub, whatever else it has, want and its Ask and Approved, and leaves it as it was.
func ofIs(t *testing.T, sub int, want string) {
	t.Helper()
	for _, x := range items(sub) {
		was := x
		was.Groups = slices.Clone(x.Groups)
		m := mode(want)
		m.Ask, m.Approved = x.Ask, x.Approved
		for range 2 {
			if got := Of(x); got != m {
				t.Fatalf("P15.2: Of(%s): %q; want %q", show(x), letters(got), letters(m))
			}
		}
		if !same(x, was) {
			t.Fatalf("R3: Of(%s) turned it: %s", show(was), show(x))
		}
	}
}

func TestOf(t *testing.T) {
	ofIs(t, api.None, "")
	ofIs(t, api.To, "T")
	ofIs(t, api.From, "F")
	ofIs(t, api.Both, "TF")
}

// What is no Sub is neither To nor From; Ask and Approved are told of it, too.
func TestOfOthers(t *testing.T) {
	for _, sub := range oddNumbers() {
		if sub < 0 || sub > 3 {
			ofIs(t, sub, "")
		}
	}
}

// toldInto is what P15.2 says of Into: x with Sub, Ask and Approved of the mode m.
func toldInto(x api.Item, m string) api.Item {
	subs := map[string]int{"": 0, "T": 1, "F": 2, "TF": 3}
	is := mode(m)
	y := x
	y.Sub = subs[letters(api.Mode{To: is.To, From: is.From})]
	y.Ask, y.Approved = is.Ask, is.Approved
	return y
}

func TestInto(t *testing.T) {
	for _, m := range allModes() {
		for _, x := range items(-1, 0, 1, 2, 3, 4, 9, 1<<40) {
			want := toldInto(x, m)
			for range 2 {
				if got := Into(x, mode(m)); !same(got, want) {
					t.Fatalf("P15.2: Into(%s, %q): %s; want %s", show(x), m, show(got), show(want))
				}
			}
		}
	}
}

// One of each Sub, written out: what the item had, and who waits, plays no part.
func TestIntoEachSub(t *testing.T) {
	x := api.Item{Jid: "a@b", Name: "n", Groups: []string{"g"}, Sub: api.Both, Ask: true, Approved: true}
	for m, want := range map[string]api.Item{
		"": {}, "I": {}, "T": {Sub: 1}, "TI": {Sub: 1}, "F": {Sub: 2}, "TF": {Sub: 3},
		"A": {Ask: true}, "P": {Approved: true}, "AP": {Ask: true, Approved: true}, "TP": {Sub: 1, Approved: true}, "FA": {Sub: 2, Ask: true},
	} {
		want.Jid, want.Name, want.Groups = "a@b", "n", []string{"g"}
		if got := Into(x, mode(m)); !same(got, want) {
			t.Fatalf("P15.2: Into(%s, %q): %s; want %s", show(x), m, show(got), show(want))
		}
	}
}

// What a mode makes of an item is told of it again, but who waits; and an item is of its own mode what it was.
func TestThereAndBack(t *testing.T) {
	for _, x := range items(0, 1, 2, 3) {
		if got := Into(x, Of(x)); !same(got, x) {
			t.Fatalf("P15.2: Into of %s and Of of it: %s", show(x), show(got))
		}
		for _, s := range allModes() {
			m := mode(s)
			m.In = false
			if got := Of(Into(x, mode(s))); got != m {
				t.Fatalf("P15.2: Of of Into(%s, %q): %q", show(x), s, letters(got))
			}
		}
	}
}

// An item, and its mode, are right together.
func TestRightItems(t *testing.T) {
	for _, s := range allModes() {
		m := mode(s)
		m.In = false
		x := Into(api.Item{Jid: "a@b", Sub: 7}, mode(s))
		if item.Right(x) != Right(m) || Right(Of(x)) != Right(m) {
			t.Errorf("P15.2: Right of %q: %v, of the item of it: %v", letters(m), Right(m), item.Right(x))
		}
	}
}

func TestRight(t *testing.T) {
	for _, s := range allModes() {
		is := slices.ContainsFunc(rightModes, func(right string) bool { return mode(right) == mode(s) })
		for range 2 {
			if Right(mode(s)) != is {
				t.Errorf("P15.2: Right(%q): %v", s, !is)
			}
		}
	}
}

// Groups with room behind their end are not written to, and the answer's are its own.
func TestIntoIsNewMemory(t *testing.T) {
	for n := range 5 {
		whole := []string{"a", "b", "c", "d", "e", "f"}
		was := slices.Clone(whole)
		x := api.Item{Jid: "a@b", Groups: whole[:n]}
		one, two := Into(x, mode("T")), Into(x, mode("T"))
		for _, l := range [][]string{one.Groups, append(one.Groups, "y"), append(one.Groups[:n/2], "z")} {
			l = l[:cap(l)]
			for i := range l {
				l[i] = "x"
			}
		}
		if !slices.Equal(whole, was) || !slices.Equal(x.Groups, was[:n]) {
			t.Fatalf("R3: Into: the groups that were given are %q now", whole)
		}
		if !slices.Equal(two.Groups, was[:n]) {
			t.Fatalf("R3: Into: two answers share their groups: %q", two.Groups)
		}
		if again := Into(x, mode("T")); !slices.Equal(again.Groups, was[:n]) {
			t.Fatalf("R3: Into a second time: %q", again.Groups)
		}
		whole[0] = "q"
		if !slices.Equal(two.Groups, was[:n]) {
			t.Fatalf("R3: Into: the answer shares its groups with what was given: %q", two.Groups)
		}
	}
}
