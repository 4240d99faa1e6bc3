package machine

import (
	"slices"
	"testing"

	"cardex/api"
)

// One asks, and is let: the way that each roster goes.
func TestOrdinarySteps(t *testing.T) {
	stepIs(t, "", api.Subscribe, "A")
	stepIs(t, "A", api.InSubscribed, "T")
	stepIs(t, "T", api.InSubscribe, "TI")
	stepIs(t, "TI", api.Subscribed, "TF")
	stepIs(t, "TF", api.Unsubscribe, "F")
	stepIs(t, "TF", api.Unsubscribed, "T")
	stepIs(t, "TF", api.InUnsubscribe, "T")
	stepIs(t, "TF", api.InUnsubscribed, "F")
	stepIs(t, "A", api.InUnsubscribed, "")
	stepIs(t, "I", api.Unsubscribed, "")
	stepIs(t, "", api.Subscribed, "P")
	stepIs(t, "P", api.InSubscribe, "F")
}

// sides are what an event makes of one half of a right mode: of nothing, and of each letter that may stand there.
type sides map[string]string

// seeings are what each event makes of what one sees of the other.
var seeings = map[int]sides{
	api.Subscribe:      {"": "A", "A": "A", "T": "T"},
	api.Unsubscribe:    {"": "", "A": "", "T": ""},
	api.InSubscribed:   {"": "", "A": "T", "T": "T"},
	api.InUnsubscribed: {"": "", "A": "", "T": ""},
}

// lettings are what each event makes of what the other one sees.
var lettings = map[int]sides{
	api.Subscribed:    {"": "P", "F": "F", "I": "F", "P": "P"},
	api.Unsubscribed:  {"": "", "F": "", "I": "", "P": ""},
	api.InSubscribe:   {"": "I", "F": "F", "I": "I", "P": "F"},
	api.InUnsubscribe: {"": "", "F": "", "I": "", "P": "P"},
}

// The two halves of a right mode have nothing to do with each other: an event turns one, and leaves the other as it is.
func TestStepOfEachRightMode(t *testing.T) {
	for _, seeing := range []string{"", "A", "T"} {
		for _, letting := range []string{"", "F", "I", "P"} {
			for event, behind := range seeings {
				stepIs(t, seeing+letting, event, behind[seeing]+letting)
			}
			for event, behind := range lettings {
				stepIs(t, seeing+letting, event, seeing+behind[letting])
			}
		}
	}
}

func TestStepOfEachMode(t *testing.T) {
	for _, m := range allModes() {
		for event := 1; event <= 8; event++ {
			stepIs(t, m, event, toldStep(letters(mode(m)), event))
		}
	}
}

// What may not be is turned by the words, too: what they do not name stays.
func TestStepOfWrongModes(t *testing.T) {
	stepIs(t, "TA", api.Subscribe, "TA")
	stepIs(t, "TA", api.InSubscribed, "T")
	stepIs(t, "TA", api.Unsubscribe, "")
	stepIs(t, "FI", api.Subscribed, "F")
	stepIs(t, "IP", api.Subscribed, "FP")
	stepIs(t, "FIP", api.Subscribed, "FP")
	stepIs(t, "FP", api.Subscribed, "FP")
	stepIs(t, "FP", api.InSubscribe, "FP")
	stepIs(t, "FI", api.InSubscribe, "FI")
	stepIs(t, "IP", api.InSubscribe, "FI")
	stepIs(t, "FIP", api.InUnsubscribe, "P")
	stepIs(t, "TFAIP", api.Unsubscribed, "TA")
	stepIs(t, "TFAIP", api.Subscribe, "TFAIP")
	stepIs(t, "TFAIP", api.InUnsubscribed, "FIP")
}

// What is no event leaves each mode as it is, and tells it.
func TestStepByOthers(t *testing.T) {
	for _, event := range oddNumbers() {
		if event >= 1 && event <= 8 {
			continue
		}
		for _, m := range allModes() {
			stepIs(t, m, event, m)
		}
	}
}

// However the events come: right modes stay right, and each of them can be reached from nothing.
func TestRightModesStayRight(t *testing.T) {
	reached := []api.Mode{{}}
	for i := 0; i < len(reached); i++ {
		for _, event := range oddNumbers() {
			m, _ := Step(reached[i], event)
			if !Right(m) {
				t.Fatalf("P15.1: Step(%q, %d): %q is not right", letters(reached[i]), event, letters(m))
			}
			if !slices.Contains(reached, m) {
				reached = append(reached, m)
			}
		}
	}
	for _, s := range rightModes {
		if !slices.Contains(reached, mode(s)) {
			t.Errorf("P15.1: no steps lead from nothing to %q", s)
		}
		for event := range 10 {
			if m, _ := Step(mode(s), event); !Right(m) {
				t.Errorf("P15.1: Step(%q, %d): %q is not right", s, event, letters(m))
			}
		}
	}
}

// What is answered hangs on the arguments alone, not on the steps that were done.
func TestStepsAlike(t *testing.T) {
	m := mode("AI")
	for i := range 1_000 {
		m, _ = Step(m, i*i%11)
		stepIs(t, "AI", api.Subscribed, "FA")
		stepIs(t, "", api.InSubscribed, "")
	}
}

// A table of other things: each event is found wherever it stands, and what it leaves as it is, is no other one.
func TestTable(t *testing.T) {
	longer := table[string, int]{
		{"more", func(was int) int { return was + 1 }},
		{"same", func(was int) int { return was }},
		{"", func(was int) int { return -was }},
		{"more", func(was int) int { return was + 100 }},
	}
	for _, x := range []struct {
		was   int
		event string
		want  int
	}{{3, "more", 4}, {-1, "more", 0}, {3, "same", 3}, {3, "", -3}, {0, "", 0}, {3, "mor", 3}, {3, "More", 3}, {3, "\x00", 3}} {
		if got, is := longer.step(x.was, x.event); got != x.want || is != (x.was != x.want) {
			t.Errorf("step of %d by %q: %d, %v; want %d", x.was, x.event, got, is, x.want)
		}
	}
	if got, is := (table[string, int]{}).step(3, "more"); got != 3 || is {
		t.Errorf("step of 3 by a table of nothing: %d, %v", got, is)
	}
}
