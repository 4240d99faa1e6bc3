package ranges

import (
	"math"
	"math/rand"
	"slices"
	"testing"

	"cardex/api"
)

const (
	least    = math.MinInt
	greatest = math.MaxInt
)

// list is the ranges from x[0] to x[1], from x[2] to x[3], and so on.
func list(x ...int) []api.Range {
	var l []api.Range
	for pair := range slices.Chunk(x, 2) {
		l = append(l, api.Range{Low: pair[0], High: pair[1]})
	}
	return l
}

// lists tells every list of up to most ranges whose ends are of points: right ones, and others.
func lists(points []int, most int) [][]api.Range {
	all := [][]api.Range{nil}
	for from := 0; most > 0; most-- {
		shorter := all[from:]
		from = len(all)
		for _, l := range shorter {
			for _, low := range points {
				for _, high := range points {
					all = append(all, append(slices.Clone(l), api.Range{Low: low, High: high}))
				}
			}
		}
	}
	return all
}

// rightAsTold tells what P5.1 asks of Right.
func rightAsTold(l []api.Range) bool {
	for i := range l {
		if l[i].Low > l[i].High {
			return false
		}
	}
	for i := 1; i < len(l); i++ {
		if l[i].Low <= l[i-1].High {
			return false
		}
	}
	return true
}

// inAsTold tells what P5.1 asks of In.
func inAsTold(l []api.Range, c int) bool {
	for i := range l {
		if c >= l[i].Low && c <= l[i].High {
			return true
		}
	}
	return false
}

// rightIs holds Right of l against what it should answer.
func rightIs(t *testing.T, want bool, l ...api.Range) {
	t.Helper()
	if Right(l) != want {
		t.Errorf("P5.1: Right(%v): %t", l, !want)
	}
}

// inIs holds that of what is asked those within are in l, and the others are not.
func inIs(t *testing.T, l []api.Range, within, without []int) {
	t.Helper()
	for _, c := range within {
		if !In(l, c) {
			t.Errorf("P5.1: In(%v, %d): false", l, c)
		}
	}
	for _, c := range without {
		if In(l, c) {
			t.Errorf("P5.1: In(%v, %d): true", l, c)
		}
	}
}

func TestRight(t *testing.T) {
	rightIs(t, true)
	rightIs(t, true, []api.Range{}...)
	rightIs(t, true, list(7, 7)...)
	rightIs(t, true, list(0, 0)...)
	rightIs(t, true, list(1, 9)...)
	rightIs(t, true, list(1, 3, 5, 9)...)
	rightIs(t, true, list(-9, -5, 0, 0, 2, 4, 8, 8)...)
	rightIs(t, true, list(least, greatest)...)
	rightIs(t, true, list(least, least, greatest, greatest)...)
}

// Ranges that touch are right ones, those that share a character are not.
func TestRightTouching(t *testing.T) {
	rightIs(t, true, list(1, 3, 4, 9)...)
	rightIs(t, true, list(1, 1, 2, 2, 3, 3)...)
	rightIs(t, true, list(least, -1, 0, greatest)...)
	rightIs(t, true, list(least, greatest-1, greatest, greatest)...)
	rightIs(t, false, list(1, 4, 4, 9)...)
	rightIs(t, false, list(1, 1, 1, 1)...)
	rightIs(t, false, list(1, 2, 4, 5, 5, 6)...)
	rightIs(t, false, list(1, 5, 2, 3)...)
	rightIs(t, false, list(1, 5, 0, 9)...)
	rightIs(t, false, list(1, 5, 1, 5)...)
	rightIs(t, false, list(least, greatest, greatest, greatest)...)
	rightIs(t, false, list(least, least, least, 0)...)
}

func TestRightWrongOrder(t *testing.T) {
	rightIs(t, false, list(5, 9, 1, 3)...)
	rightIs(t, false, list(1, 3, 9, 9, 5, 6)...)
	rightIs(t, false, list(4, 9, 1, 3)...)
	rightIs(t, false, list(0, greatest, least, -1)...)
}

// A Low that is above its High: alone, first, between and last; and one that is above what comes behind.
func TestRightNothingWithin(t *testing.T) {
	rightIs(t, false, list(2, 1)...)
	rightIs(t, false, list(greatest, least)...)
	rightIs(t, false, list(2, 1, 5, 6)...)
	rightIs(t, false, list(1, 2, 5, 4, 8, 9)...)
	rightIs(t, false, list(1, 2, 5, 6, 9, 8)...)
	rightIs(t, false, list(3, 1, 2, 4)...)
}

func TestRightOfAll(t *testing.T) {
	for _, l := range lists([]int{least, least + 1, 0, 1, greatest}, 3) {
		rightIs(t, rightAsTold(l), l...)
	}
}

func TestInNothing(t *testing.T) {
	inIs(t, nil, nil, []int{least, -1, 0, 1, 65, greatest})
	inIs(t, []api.Range{}, nil, []int{0})
}

// The ends of the first range, of one in the middle and of the last one, their neighbours, and what is between, below and above.
func TestInEnds(t *testing.T) {
	three := list(10, 20, 30, 30, 40, 50)
	inIs(t, three, []int{10, 11, 15, 19, 20, 30, 40, 41, 45, 49, 50}, []int{least, -10, 0, 9, 21, 25, 29, 31, 35, 39, 51, 99, greatest})
	four := list(-9, -5, -3, 0, 2, 2, 4, 8)
	inIs(t, four, []int{-9, -7, -5, -3, -1, 0, 2, 4, 6, 8}, []int{least, -10, -4, 1, 3, 9, greatest})
	inIs(t, list(1, 3, 4, 6), []int{1, 2, 3, 4, 5, 6}, []int{0, 7})
	inIs(t, list(7, 7), []int{7}, []int{6, 8, -7, 0})
}

func TestInGreatNumbers(t *testing.T) {
	inIs(t, list(least, greatest), []int{least, -1, 0, 1, greatest}, nil)
	inIs(t, list(least, least, greatest, greatest), []int{least, greatest}, []int{least + 1, 0, greatest - 1})
	inIs(t, list(least+1, greatest-1), []int{least + 1, 0, greatest - 1}, []int{least, greatest})
}

// Lists of up to 40 ranges, of an even and of an odd length.
func TestInLong(t *testing.T) {
	var l []api.Range
	var within, without []int
	for n := range 40 {
		low := 10 * n
		inIs(t, l, within, append(without, low, low+1, low+5, low+9))
		l = append(l, api.Range{Low: low, High: low + 3})
		within = append(within, low, low+1, low+3)
		without = append(without, low-1, low+4, low+6)
	}
}

// Lists that are not right: each range counts all the same, and one whose Low is above its High has nothing within.
func TestInWrongLists(t *testing.T) {
	inIs(t, list(10, 20, 1, 3), []int{1, 2, 3, 10, 15, 20}, []int{0, 4, 9, 21})
	inIs(t, list(30, 40, 10, 20, 1, 3), []int{1, 2, 3, 10, 20, 30, 40}, []int{0, 4, 9, 21, 29, 41})
	inIs(t, list(1, 30, 2, 3), []int{1, 2, 3, 4, 25, 30}, []int{0, 31})
	inIs(t, list(2, 3, 1, 30, 4, 5), []int{1, 2, 3, 4, 5, 6, 30}, []int{0, 31})
	inIs(t, list(1, 5, 3, 9), []int{1, 3, 5, 6, 9}, []int{0, 10})
	inIs(t, list(5, 1), nil, []int{0, 1, 2, 3, 4, 5, 6})
	inIs(t, list(5, 1, 3, 3), []int{3}, []int{1, 2, 4, 5})
	inIs(t, list(1, 2, 9, 4, 7, 8), []int{1, 2, 7, 8}, []int{0, 3, 4, 5, 6, 9})
	inIs(t, list(greatest, least), nil, []int{least, 0, greatest})
	inIs(t, list(greatest, least, 0, 0), []int{0}, []int{least, -1, 1, greatest})
}

func TestInOfAll(t *testing.T) {
	points := []int{least, least + 1, 0, 1, greatest}
	for _, l := range lists(points, 3) {
		for _, c := range append(points, least+2, -1, 2, greatest-1) {
			if want := inAsTold(l, c); In(l, c) != want {
				t.Fatalf("P5.1: In(%v, %d): %t", l, c, !want)
			}
		}
	}
}

func TestInAndRightByChance(t *testing.T) {
	r := rand.New(rand.NewSource(5))
	for range 20_000 {
		l := make([]api.Range, r.Intn(9))
		for i := range l {
			low := r.Intn(8) + i*r.Intn(12)
			l[i] = api.Range{Low: low, High: low + r.Intn(6) - 1}
		}
		rightIs(t, rightAsTold(l), l...)
		for c := -2; c < 110; c++ {
			if want := inAsTold(l, c); In(l, c) != want {
				t.Fatalf("P5.1: In(%v, %d): %t", l, c, !want)
			}
		}
	}
}

// What is handed in stays as it was, with the room behind its end.
func TestRightAndInChangeNothing(t *testing.T) {
	for _, l := range lists([]int{0, 1, 4}, 2) {
		room := append(slices.Clone(l), list(70, 71, 80, 81)...)
		was := slices.Clone(room)
		Right(room[:len(l)])
		In(room[:len(l)], 1)
		if !slices.Equal(room, was) {
			t.Fatalf("R3: %v is %v behind Right and In", was, room)
		}
	}
}
