package ranges

import (
	"slices"
	"strconv"
	"strings"
	"testing"

	"cardex/api"
)

// tables are the four calls, each with its table as chapter 5 writes it.
var tables = []struct {
	name string
	call func() []api.Range
	text string
}{
	{"Letters", Letters, "65-90, 97-122, 192-214, 216-246, 248-591, 880-1327, 19968-40959"},
	{"Banned", Banned, "0-31, 127-160, 5760-5760, 8192-8202, 8232-8239, 8287-8287, 12288-12288, 57344-63743, 65533-65535, 917504-917631, 983040-1114111"},
	{"RightLeft", RightLeft, "1424-1535, 1536-1791, 64285-64335"},
	{"Gone", Gone, "173-173, 847-847, 6150-6150, 8203-8205, 8288-8288, 65024-65039, 65279-65279"},
}

// written reads a table as chapter 5 writes it.
func written(t *testing.T, text string) []api.Range {
	t.Helper()
	var l []api.Range
	for _, r := range strings.Split(text, ", ") {
		low, high, _ := strings.Cut(r, "-")
		a, wrongLow := strconv.Atoi(low)
		b, wrongHigh := strconv.Atoi(high)
		if wrongLow != nil || wrongHigh != nil {
			t.Fatalf("no range: %q", r)
		}
		l = append(l, api.Range{Low: a, High: b})
	}
	return l
}

func TestTables(t *testing.T) {
	for _, table := range tables {
		want, got := written(t, table.text), table.call()
		if !slices.Equal(got, want) {
			t.Errorf("P5.1: %s: %v; want %v", table.name, got, want)
		}
		if !Right(got) {
			t.Errorf("P5.1: %s is not right: %v", table.name, got)
		}
	}
}

// Each range's ends are in its table; the neighbours of these are, if another range has them.
func TestTableEnds(t *testing.T) {
	touching := map[int]bool{1_535: true, 1_536: true}
	for _, table := range tables {
		l := table.call()
		for _, r := range written(t, table.text) {
			inIs(t, l, []int{r.Low, (r.Low + r.High) / 2, r.High}, nil)
			for _, c := range []int{r.Low - 1, r.High + 1} {
				if touching[c] {
					inIs(t, l, []int{c}, nil)
				} else {
					inIs(t, l, nil, []int{c})
				}
			}
		}
		inIs(t, l, nil, []int{least, -1, 1_114_112, greatest})
	}
}

// How many characters each table has, of all that there are.
func TestTableSizes(t *testing.T) {
	for i, want := range []int{
		26 + 26 + 23 + 31 + 344 + 448 + 20_992,
		32 + 34 + 1 + 11 + 8 + 1 + 1 + 6_400 + 3 + 128 + 131_072,
		112 + 256 + 51,
		1 + 1 + 1 + 3 + 1 + 16 + 1,
	} {
		l, n := tables[i].call(), 0
		for c := range 1_114_200 {
			if In(l, c) {
				n++
			}
		}
		if n != want {
			t.Errorf("P5.1: %s has %d characters; want %d", tables[i].name, n, want)
		}
	}
}

// A character that stands for one of a kind: in its table, and in no other.
func TestTablesApart(t *testing.T) {
	for want, characters := range []string{"AZazÀÖØöøɏͰԯ一鿿", "\x00\x1f\x7f\u0085\u00a0\u1680\u2000\u2028\u202f\u205f\u3000\ue000\uf8ff\ufffd\U000e0001\U00100000", "\u05d0\u05ea\u0627\u0628\u06cc\ufb1d\ufb4f", "\u00ad\u034f\u1806\u200b\u200d\u2060\ufe00\ufe0f\ufeff"} {
		for _, c := range characters {
			for i, table := range tables {
				if In(table.call(), int(c)) != (i == want) {
					t.Errorf("P5.1: is %d in %s: %t", c, table.name, i != want)
				}
			}
		}
	}
	for _, c := range " 09-.@/×÷ß" {
		for i, table := range tables {
			if want := i == 0 && c == 'ß'; In(table.call(), int(c)) != want {
				t.Errorf("P5.1: is %d in %s: %t", c, table.name, !want)
			}
		}
	}
}

// The range that two of RightLeft make, as they touch; the other tables have none that do.
func TestTablesJoined(t *testing.T) {
	joinIs(t, list(1_424, 1_791, 64_285, 64_335), RightLeft(), nil)
	for _, i := range []int{0, 1, 3} {
		l := tables[i].call()
		joinIs(t, l, l, nil)
		joinIs(t, l, l, l)
	}
	for _, a := range tables {
		for _, b := range tables {
			joint, l, m := Join(a.call(), b.call()), a.call(), b.call()
			for c := range 70_000 {
				if want := In(l, c) || In(m, c); In(joint, c) != want {
					t.Fatalf("P5.1: is %d in %s joined with %s: %t", c, a.name, b.name, !want)
				}
			}
		}
	}
}

// Who writes into what one call told does not turn what the next one tells, or any other call.
func TestTablesShareNothing(t *testing.T) {
	for _, table := range tables {
		kept := table.call()
		told := table.call()
		told = told[:cap(told)]
		for i := range told {
			told[i] = api.Range{Low: 1, High: 0}
		}
		if want := written(t, table.text); !slices.Equal(kept, want) || !slices.Equal(table.call(), want) {
			t.Errorf("R3: who wrote into what %s told turned %v or %v", table.name, kept, table.call())
		}
	}
	TestTables(t)
}
