package item

import (
	"fmt"
	"slices"
	"strings"
	"testing"

	"cardex/api"
	"cardex/jid"
	"cardex/utf"
)

// toldSubs are the subscriptions that P14.1 lets be: Sub, Ask and Approved of each.
var toldSubs = []api.Item{
	{Sub: 0}, {Sub: 0, Ask: true}, {Sub: 0, Approved: true}, {Sub: 0, Ask: true, Approved: true},
	{Sub: 1}, {Sub: 1, Approved: true},
	{Sub: 2}, {Sub: 2, Ask: true},
	{Sub: 3},
}

// toldRight is what P14.1 says of Right, word by word.
func toldRight(x api.Item) bool {
	bare, err := jid.Bare(x.Jid)
	if err != api.OK || bare != x.Jid || !utf.Line(x.Name, 100) || len(x.Groups) > 8 {
		return false
	}
	for i, group := range x.Groups {
		if group == "" || !utf.Line(group, 100) || i > 0 && x.Groups[i-1] >= group {
			return false
		}
	}
	for _, s := range toldSubs {
		if s.Sub == x.Sub && s.Ask == x.Ask && s.Approved == x.Approved {
			return true
		}
	}
	return false
}

// toldGroups is what P14.1 says of Groups: of those above the last one the lowest, again and again.
func toldGroups(l []string) []string {
	var groups []string
	for last := ""; ; {
		next := last
		for _, s := range l {
			if s > last && (next == last || s < next) {
				next = s
			}
		}
		if next == last {
			return groups
		}
		groups, last = append(groups, next), next
	}
}

// toldSort is what P14.1 says of Sort: each put behind all that it is not to be ahead of.
func toldSort(l []api.Item) []api.Item {
	var sorted []api.Item
	for _, x := range l {
		at := len(sorted)
		for at > 0 && jid.Less(x.Jid, sorted[at-1].Jid) {
			at--
		}
		sorted = slices.Insert(sorted, at, x)
	}
	return sorted
}

// toldFind is what P14.1 says of Find.
func toldFind(l []api.Item, s string) (api.Item, bool) {
	for _, x := range l {
		if x.Jid == s {
			return x, true
		}
	}
	return api.Item{}, false
}

// same tells whether a and b are the same, as R9 has it.
func same(a, b api.Item) bool {
	return a.Jid == b.Jid && a.Name == b.Name && slices.Equal(a.Groups, b.Groups) && a.Sub == b.Sub && a.Ask == b.Ask && a.Approved == b.Approved
}

// sameItems tells whether a and b are the same, item by item.
func sameItems(a, b []api.Item) bool { return slices.EqualFunc(a, b, same) }

// roomy is l with something in the room behind its end, and a check that l and that room are as they were.
func roomy[T any](l []T, behind T, equal func(a, b T) bool) (given []T, asItWas func() bool) {
	whole := append(slices.Clone(l), behind, behind)
	was := slices.Clone(whole)
	return whole[:len(l)], func() bool { return slices.EqualFunc(whole, was, equal) }
}

// roomyItems is l, each with Groups that have room behind their end, and a check that all that is as it was.
func roomyItems(l []api.Item) (given []api.Item, asItWas func() bool) {
	var checks []func() bool
	for _, x := range l {
		groups, check := roomy(x.Groups, "~", equalTexts)
		x.Groups = groups
		given, checks = append(given, x), append(checks, check)
	}
	given, asHanded := roomy(given, api.Item{Jid: "~", Groups: []string{"~"}}, same)
	return given, func() bool {
		return asHanded() && !slices.ContainsFunc(checks, func(check func() bool) bool { return !check() })
	}
}

func equalTexts(a, b string) bool { return a == b }

// show is v, cut where it is too long to be read.
func show(v any) string { return fmt.Sprintf("%.800s", fmt.Sprintf("%#v", v)) }

// rightIs holds that Right of x is want, that x stays as it was, and that Sort and Find tell it as it is, right or not.
func rightIs(t *testing.T, x api.Item, want bool) {
	t.Helper()
	given, asItWas := roomyItems([]api.Item{x})
	for range 2 {
		if Right(given[0]) != want {
			t.Fatalf("P14.1: Right(%s): %v", show(x), !want)
		}
	}
	if !asItWas() {
		t.Fatalf("R3: Right changed what it was given: %s", show(x))
	}
	found, is := Find(given, x.Jid)
	if l := Sort(given); !is || !same(found, x) || !sameItems(l, []api.Item{x}) {
		t.Fatalf("P14.1: of %s alone: Find %s, %v, Sort %s", show(x), show(found), is, show(l))
	}
}

// groupsAre holds what Groups tells of l; that is told of it again, is new memory, and l stays as it was.
func groupsAre(t *testing.T, l []string, want ...string) {
	t.Helper()
	given, asItWas := roomy(l, "~", equalTexts)
	got := Groups(given)
	if !slices.Equal(got, want) {
		t.Fatalf("P14.1: Groups(%.800q): %.800q; want %.800q", l, got, want)
	}
	if again := Groups(got); !slices.Equal(again, want) {
		t.Fatalf("P14.1: Groups(%.800q) is %.800q, but of that %.800q", l, got, again)
	}
	scribble(got, "x")
	if !asItWas() {
		t.Fatalf("R3: Groups(%.800q): what was given is changed, or shared", l)
	}
	if got = Groups(given); !slices.Equal(got, want) {
		t.Fatalf("R3: Groups(%.800q) a second time: %.800q; want %.800q", l, got, want)
	}
}

// scribble writes x all over l, and all the room behind its end.
func scribble[T any](l []T, x T) {
	for i := range l[:cap(l)] {
		l[:cap(l)][i] = x
	}
}

// scribbleGroups writes over all Groups of x, and the room behind them.
func scribbleGroups(x api.Item) { scribble(x.Groups, "x") }

// sortIs holds what Sort tells of l; that is told of it again, is new memory, and l stays as it was.
func sortIs(t *testing.T, l []api.Item, want ...api.Item) {
	t.Helper()
	given, asItWas := roomyItems(l)
	got := Sort(given)
	if !sameItems(got, want) {
		t.Fatalf("P14.1: Sort(%s): %s; want %s", show(l), show(got), show(want))
	}
	if again := Sort(got); !sameItems(again, want) {
		t.Fatalf("P14.1: Sort(%s) is %s, but of that %s", show(l), show(got), show(again))
	}
	for i, x := range got {
		scribbleGroups(x)
		if !sameItems(got[i+1:], want[i+1:]) {
			t.Fatalf("R3: Sort(%s): items share their Groups", show(l))
		}
	}
	scribble(got, api.Item{Jid: "x"})
	if !asItWas() {
		t.Fatalf("R3: Sort(%s): what was given is changed, or shared", show(l))
	}
	if got = Sort(given); !sameItems(got, want) {
		t.Fatalf("R3: Sort(%s) a second time: %s; want %s", show(l), show(got), show(want))
	}
}

// findIs holds what Find tells of l and s, that it is new memory, and that l stays as it was.
func findIs(t *testing.T, l []api.Item, s string, want api.Item, is bool) {
	t.Helper()
	given, asItWas := roomyItems(l)
	for range 2 {
		got, found := Find(given, s)
		if !same(got, want) || found != is {
			t.Fatalf("P14.1: Find(%s, %q): %s, %v; want %s, %v", show(l), s, show(got), found, show(want), is)
		}
		scribbleGroups(got)
		if !asItWas() {
			t.Fatalf("R3: Find(%s, %q): what was given is changed, or shared", show(l), s)
		}
	}
}

// hold holds Sort of l, and Find of each Jid of it, of those also in what is sorted, against what is told of them.
func hold(t *testing.T, l []api.Item, others ...string) {
	t.Helper()
	sorted := toldSort(l)
	sortIs(t, l, sorted...)
	for _, x := range l {
		others = append(others, x.Jid)
	}
	slices.Sort(others)
	for _, s := range slices.Compact(others) {
		want, is := toldFind(l, s)
		findIs(t, l, s, want, is)
		// What is sorted is found, and as the same one: those alike are in their order.
		findIs(t, sorted, s, want, is)
	}
}

// rowsOf are all rows of up to most of things.
func rowsOf[T any](most int, things ...T) [][]T {
	all := [][]T{nil}
	for last := 0; most > 0; most-- {
		longest := all[last:]
		last = len(all)
		for _, row := range longest {
			for _, thing := range things {
				all = append(all, append(slices.Clone(row), thing))
			}
		}
	}
	return all
}

// oddTexts are texts, and what is none, that may be where a line is asked for, or not.
func oddTexts() []string {
	l := []string{"", "a", "A", " ", "\t", "\n", "\r", "\x00", "\x1f", "\x7f", "\u0080", "é", "日", "😀", "\u00ad", "\ufffd", "\ufffe", "\uffff", "\U0001fffe", "\xff", "\x80", "\xc3", "\xc0\x80", "\xed\xa0\x80", "\xf4\x90\x80\x80", "a@b", "@", "/", ".", "a.b", "-", "1", "\u05d0"}
	for _, sign := range []string{"a", "é", "日", "😀", " "} {
		for _, n := range []int{99, 100, 101} {
			l = append(l, strings.Repeat(sign, n))
		}
	}
	return l
}
