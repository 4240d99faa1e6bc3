package machine

import (
	"fmt"
	"math"
	"slices"
	"strings"
	"testing"

	"cardex/api"
)

// mode is the mode of letters: To, From, Ask, In, and "P" for Approved.
func mode(letters string) api.Mode {
	is := func(letter string) bool { return strings.Contains(letters, letter) }
	return api.Mode{To: is("T"), From: is("F"), Ask: is("A"), In: is("I"), Approved: is("P")}
}

// letters are those of m.
func letters(m api.Mode) string {
	all := ""
	for _, x := range []struct {
		letter string
		is     bool
	}{{"T", m.To}, {"F", m.From}, {"A", m.Ask}, {"I", m.In}, {"P", m.Approved}} {
		if x.is {
			all += x.letter
		}
	}
	return all
}

// allModes are all that there are, right or not.
func allModes() []string {
	all := []string{""}
	for _, letter := range []string{"T", "F", "A", "I", "P"} {
		for _, s := range slices.Clone(all) {
			all = append(all, s+letter)
		}
	}
	return all
}

// rightModes are those that P15.2 lets be: what one sees of the other, by what the other sees.
var rightModes = []string{
	"", "F", "I", "P",
	"T", "TF", "TI", "TP",
	"A", "FA", "AI", "AP",
}

// told is one of the ways in which P15.1 says what an event does: where a mode has all of has, and none of not, put is put in, and take taken away.
type told struct{ has, not, put, take string }

// toldEvents are the words of P15.1, event by event; of each the first that fits counts.
var toldEvents = map[int][]told{
	1: {{not: "T", put: "A"}},
	2: {{take: "TA"}},
	3: {{has: "I", put: "F", take: "I"}, {not: "F", put: "P"}},
	4: {{take: "FIP"}},
	5: {{has: "F"}, {has: "P", put: "F", take: "P"}, {put: "I"}},
	6: {{take: "FI"}},
	7: {{has: "A", put: "T", take: "A"}},
	8: {{take: "TA"}},
}

// fits tells whether m is of the kind that x speaks of.
func (x told) fits(m string) bool {
	for _, letter := range strings.Split(x.has, "") {
		if !strings.Contains(m, letter) {
			return false
		}
	}
	return x.not == "" || !strings.ContainsAny(m, x.not)
}

// toldStep is what P15.1 says of the mode m, and an event.
func toldStep(m string, event int) string {
	for _, x := range toldEvents[event] {
		if x.fits(m) {
			left := strings.Map(func(c rune) rune {
				if strings.ContainsRune(x.take, c) {
					return -1
				}
				return c
			}, m)
			return letters(mode(left + x.put))
		}
	}
	return m
}

// oddNumbers are events, subscriptions, and what is none.
func oddNumbers() []int {
	l := []int{math.MinInt, math.MinInt32, math.MaxInt32, math.MaxInt, -1 << 32, -256, -255}
	for n := -20; n <= 300; n++ {
		l = append(l, n)
	}
	// Those that would be events, or subscriptions, if less of them counted.
	for n := range 10 {
		l = append(l, n+1<<8, n+1<<16, n+1<<32, n+math.MinInt, n-1<<8, n-1<<32, n<<8, n<<32)
	}
	return l
}

// stepIs holds what Step tells of the mode m, and event: the mode want, and whether it is another one.
func stepIs(t *testing.T, m string, event int, want string) {
	t.Helper()
	for range 2 {
		got, is := Step(mode(m), event)
		if got != mode(want) || is != (mode(m) != mode(want)) {
			t.Fatalf("P15.1: Step(%q, %d): %q, %v; want %q", m, event, letters(got), is, want)
		}
	}
}

// same tells whether a and b are the same, as R9 has it.
func same(a, b api.Item) bool {
	return a.Jid == b.Jid && a.Name == b.Name && slices.Equal(a.Groups, b.Groups) && a.Sub == b.Sub && a.Ask == b.Ask && a.Approved == b.Approved
}

// show is v, with the names of its fields.
func show(v any) string { return fmt.Sprintf("%+v", v) }

// items are some of all kinds, right or not, of each Sub, with and without Ask and Approved.
func items(subs ...int) []api.Item {
	var l []api.Item
	for _, sub := range subs {
		for i := range 4 {
			ask, approved := i&1 != 0, i&2 != 0
			l = append(l,
				api.Item{Sub: sub, Ask: ask, Approved: approved},
				api.Item{Jid: "a@b", Name: "n", Groups: []string{"f", "g"}, Sub: sub, Ask: ask, Approved: approved},
				api.Item{Jid: "A@b/c", Name: "\n\xff", Groups: []string{"b", "", "a", "b", "\xff"}, Sub: sub, Ask: ask, Approved: approved})
		}
	}
	return l
}
