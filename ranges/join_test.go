package ranges

import (
	"math/rand"
	"slices"
	"testing"

	"cardex/api"
)

// joinAsTold tells what P5.1 asks of Join, of ranges whose ends are all of points, which rise.
// It marks each point that is in a or b, and each room between two points that do not touch; a range goes as far as the marks do.
func joinAsTold(points []int, a, b []api.Range) []api.Range {
	if !rightAsTold(a) || !rightAsTold(b) {
		return nil
	}
	either := slices.Concat(a, b)
	var l []api.Range
	for i, p := range points {
		if !inAsTold(either, p) {
			continue
		}
		goesOn := i > 0 && inAsTold(either, points[i-1])
		if goesOn && points[i-1] != p-1 {
			goesOn = inAsTold(either, p-1)
		}
		if !goesOn {
			l = append(l, api.Range{Low: p})
		}
		l[len(l)-1].High = p
	}
	return l
}

// joinIs holds Join of a and b, in either order, against what it should answer.
func joinIs(t *testing.T, want, a, b []api.Range) {
	t.Helper()
	wasA, wasB := slices.Clone(a), slices.Clone(b)
	for range 2 {
		if got := Join(a, b); !slices.Equal(got, want) {
			t.Fatalf("P5.1: Join(%v, %v): %v; want %v", a, b, got, want)
		}
		a, b = b, a
	}
	if !slices.Equal(a, wasA) || !slices.Equal(b, wasB) {
		t.Fatalf("R3: %v and %v are %v and %v behind Join", wasA, wasB, a, b)
	}
}

func TestJoinNothing(t *testing.T) {
	joinIs(t, nil, nil, nil)
	joinIs(t, nil, []api.Range{}, nil)
	joinIs(t, nil, []api.Range{}, []api.Range{})
	joinIs(t, list(1, 2), list(1, 2), nil)
	joinIs(t, list(1, 2, 5, 5, 9, 12), list(1, 2, 5, 5, 9, 12), nil)
	joinIs(t, list(least, greatest), list(least, greatest), nil)
}

func TestJoinTheSame(t *testing.T) {
	joinIs(t, list(7, 7), list(7, 7), list(7, 7))
	joinIs(t, list(1, 2, 5, 5, 9, 12), list(1, 2, 5, 5, 9, 12), list(1, 2, 5, 5, 9, 12))
	l := list(1, 2, 3, 4, 8, 9)
	joinIs(t, list(1, 4, 8, 9), l, l)
}

func TestJoinApart(t *testing.T) {
	joinIs(t, list(1, 2, 4, 5), list(1, 2), list(4, 5))
	joinIs(t, list(1, 1, 3, 3, 5, 5, 7, 7), list(1, 1, 5, 5), list(3, 3, 7, 7))
	joinIs(t, list(-9, -8, 0, 0, 10, 20, 30, 40), list(-9, -8, 30, 40), list(0, 0, 10, 20))
}

// Those that touch are one, of one side too.
func TestJoinTouching(t *testing.T) {
	joinIs(t, list(1, 4), list(1, 2), list(3, 4))
	joinIs(t, list(1, 4), list(1, 2, 3, 4), nil)
	joinIs(t, list(-1, 0), list(-1, -1), list(0, 0))
	joinIs(t, list(1, 6), list(1, 1, 3, 3, 5, 5), list(2, 2, 4, 4, 6, 6))
	joinIs(t, list(1, 9), list(1, 3, 7, 9), list(4, 6))
	joinIs(t, list(1, 9, 11, 12), list(1, 3, 7, 9), list(4, 6, 11, 12))
	joinIs(t, list(0, 5, 9, 9), list(0, 1, 2, 3, 4, 5, 9, 9), nil)
}

func TestJoinOverlapping(t *testing.T) {
	joinIs(t, list(1, 8), list(1, 5), list(3, 8))
	joinIs(t, list(1, 8), list(1, 5), list(5, 8))
	joinIs(t, list(1, 8), list(1, 5), list(1, 8))
	joinIs(t, list(1, 8), list(1, 8), list(4, 8))
	joinIs(t, list(1, 5, 7, 9, 20, 20), list(1, 3, 8, 9), list(2, 5, 7, 7, 20, 20))
	joinIs(t, list(1, 20), list(1, 5, 9, 15), list(4, 10, 14, 20))
}

// One within another, and one that spans several of the other side.
func TestJoinSpanning(t *testing.T) {
	joinIs(t, list(1, 9), list(1, 9), list(3, 4))
	joinIs(t, list(1, 9), list(1, 9), list(3, 4, 6, 6))
	joinIs(t, list(1, 9, 11, 12), list(1, 9), list(3, 4, 6, 6, 11, 12))
	joinIs(t, list(1, 12), list(1, 9), list(3, 4, 6, 6, 10, 12))
	joinIs(t, list(1, 30, 40, 41), list(5, 6, 8, 9, 20, 30, 40, 41), list(1, 25))
	joinIs(t, list(1, 99), list(1, 99), list(1, 1, 50, 50, 99, 99))
}

// Nothing, if a side is not right: by a Low above its High, by its order, or by a character that two of it share.
func TestJoinWrongLists(t *testing.T) {
	for _, wrong := range [][]api.Range{list(2, 1), list(5, 6, 1, 2), list(5, 6, 6, 7), list(1, 9, 3, 4), list(1, 2, 9, 8), list(1, 1, 1, 1), list(greatest, least), list(1, 2, 4, 5, 8, 7, 9, 9)} {
		for _, other := range [][]api.Range{nil, list(1, 2), list(5, 6), list(least, greatest), list(1, 2, 3, 4, 20, 30), wrong, list(9, 1)} {
			joinIs(t, nil, wrong, other)
		}
	}
}

// The greatest and the least numbers there are, at the ends of ranges.
func TestJoinGreatNumbers(t *testing.T) {
	joinIs(t, list(1, greatest), list(1, greatest), list(5, 6))
	joinIs(t, list(1, greatest), list(1, greatest), list(greatest, greatest))
	joinIs(t, list(1, greatest), list(1, greatest-1), list(greatest, greatest))
	joinIs(t, list(1, greatest-2, greatest, greatest), list(1, greatest-2), list(greatest, greatest))
	joinIs(t, list(least, 6), list(least, 6), list(least, least))
	joinIs(t, list(least, 6), list(least+1, 6), list(least, least))
	joinIs(t, list(least, least, least+2, 6), list(least+2, 6), list(least, least))
	joinIs(t, list(least, least, greatest, greatest), list(least, least), list(greatest, greatest))
	joinIs(t, list(least, greatest), list(least, 0), list(1, greatest))
	joinIs(t, list(least, greatest), list(least, -1, 0, greatest), nil)
	joinIs(t, list(least, greatest), list(least, greatest), list(least, least, 0, 0, greatest, greatest))
	joinIs(t, list(least, 0, 2, greatest), list(least, 0), list(2, greatest))
	joinIs(t, list(greatest, greatest), list(greatest, greatest), list(greatest, greatest))
	joinIs(t, list(least, least), list(least, least), list(least, least))
}

// Each two lists of up to two ranges whose ends are of a few points: right ones, and others.
func TestJoinOfAll(t *testing.T) {
	for _, points := range [][]int{{-1, 0, 1, 2, 4}, {least, least + 1, 0, greatest - 1, greatest}} {
		all := lists(points, 2)
		for i, a := range all {
			for _, b := range all[i:] {
				joinIs(t, joinAsTold(points, a, b), a, b)
			}
		}
	}
}

// Each two right lists of ranges within seven numbers: anywhere, and at both ends of the numbers there are.
func TestJoinOfAllRight(t *testing.T) {
	for _, first := range []int{-3, least, greatest - 6} {
		var points []int
		for p := range 7 {
			points = append(points, first+p)
		}
		all := rightLists(points)
		for i, a := range all {
			for _, b := range all[i:] {
				joinIs(t, joinAsTold(points, a, b), a, b)
			}
		}
	}
}

// rightLists tells all lists that are right and have only what is of points, which rise by one.
func rightLists(points []int) [][]api.Range {
	all := [][]api.Range{nil}
	for i, low := range points {
		for j, high := range points[i:] {
			for _, l := range rightLists(points[i+j+1:]) {
				all = append(all, append(list(low, high), l...))
			}
		}
	}
	return all
}

// What is in one is in the joint one, and nothing else; and no two of the joint one touch.
func TestJoinByChance(t *testing.T) {
	r := rand.New(rand.NewSource(5))
	some := func() []api.Range {
		var l []api.Range
		for low := r.Intn(20); low < 120; low += 1 + r.Intn(20) {
			high := low + r.Intn(20)
			l = append(l, api.Range{Low: low, High: high})
			low = high
		}
		return l
	}
	for range 20_000 {
		a, b := some(), some()
		joint := Join(a, b)
		for c := -1; c < 150; c++ {
			if want := In(a, c) || In(b, c); In(joint, c) != want {
				t.Fatalf("P5.1: Join(%v, %v): %v; is %d in it: %t", a, b, joint, c, !want)
			}
		}
		for i := 1; i < len(joint); i++ {
			if joint[i].Low <= joint[i-1].High+1 {
				t.Fatalf("P5.1: Join(%v, %v): %v; more ranges than need be", a, b, joint)
			}
		}
		if !Right(joint) || !slices.Equal(Join(b, a), joint) || !slices.Equal(Join(joint, a), joint) {
			t.Fatalf("P5.1: Join(%v, %v): %v", a, b, joint)
		}
	}
}

// What is handed in stays as it was, with the room behind its end, and shares no memory with what is told.
func TestJoinSharesNothing(t *testing.T) {
	behind := list(70, 71, 80, 81, 90, 91)
	for _, a := range lists([]int{0, 1, 3}, 2) {
		for _, b := range lists([]int{0, 2, 3}, 2) {
			roomA, roomB := slices.Concat(a, behind), slices.Concat(b, behind)
			joint := Join(roomA[:len(a)], roomB[:len(b)])
			for range 2 {
				if !slices.Equal(roomA, slices.Concat(a, behind)) || !slices.Equal(roomB, slices.Concat(b, behind)) {
					t.Fatalf("R3: %v and %v are %v and %v behind Join", a, b, roomA, roomB)
				}
				joint = joint[:cap(joint)]
				for i := range joint {
					joint[i] = api.Range{Low: -7, High: -7}
				}
			}
		}
	}
	l := list(1, 2, 5, 6)
	first, second := Join(l, nil), Join(l, nil)
	first[0].Low = 99
	if l[0].Low != 1 || second[0].Low != 1 {
		t.Errorf("R3: who writes into what Join told turned %v or %v", l, second)
	}
}
