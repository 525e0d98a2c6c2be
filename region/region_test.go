package region

import (
	"fmt"
	"math"
	"slices"
	"testing"

	"greenbelt/api"
)

const end = 1048576 // 2^20

// list returns the rectangles with the given numbers, four each, valid or not.
func list(n ...int) []api.Rect {
	var l []api.Rect
	for ; len(n) > 0; n = n[4:] {
		l = append(l, api.Rect{X0: n[0], Y0: n[1], X1: n[2], Y1: n[3]})
	}
	return l
}

// dots returns n cells of the row y with a free one before each of them.
func dots(n, y int) []api.Rect {
	var l []api.Rect
	for i := range n {
		l = append(l, list(2*i+1, y, 2*i+2, y+1)...)
	}
	return l
}

// posts returns n rectangles beside each other that are one cell wide and high cells high, with a free cell before each.
func posts(n, high int) []api.Rect {
	l := dots(n, 0)
	for i := range l {
		l[i].Y1 = high
	}
	return l
}

// bars returns n rectangles over each other that are one cell high and wide cells wide, with a free cell below each.
func bars(n, wide int) []api.Rect {
	l := posts(n, wide)
	for i, r := range l {
		l[i] = api.Rect{X0: r.Y0, Y0: r.X0, X1: r.Y1, Y1: r.X1}
	}
	return l
}

// repeat returns n times the same rectangles.
func repeat(n int, l []api.Rect) []api.Rect { return slices.Repeat(l, n) }

// ring has a hole in the middle.
func ring() []api.Rect { return list(0, 0, 1, 3, 1, 0, 2, 1, 1, 2, 2, 3, 2, 0, 3, 3) }

// regions has forms of all kinds of sets.
func regions() [][]api.Rect {
	return [][]api.Rect{
		nil, {}, list(0, 0, 1, 1), list(7, 3, 9, 20), list(0, 0, end, end), list(0, 0, end, 1), list(0, 0, 1, end),
		list(end-1, 0, end, end), list(0, end-1, end, end), list(end-1, end-1, end, end), list(0, 0, 1, 1, end-1, end-1, end, end),
		list(0, end-1, 1, end, end-1, 0, end, 1), list(0, 0, 1, 1, 0, end-1, 1, end, end-1, 0, end, 1, end-1, end-1, end, end),
		ring(), list(0, 0, 1, 2, 1, 0, 2, 3, 2, 1, 3, 3), list(0, 0, 1, 1, 1, 1, 2, 2), list(0, 1, 1, 2, 1, 0, 2, 1),
		list(0, 1, 1, 2, 1, 0, 2, 3, 2, 1, 3, 2), list(0, 0, 1, 1, 0, 2, 1, 3), list(0, 0, 1, 1, 2, 0, 3, 1),
		list(0, 0, 1, 1, 0, 2, 1, 3, 2, 0, 3, 1, 2, 2, 3, 3), list(0, 0, 1, 1, 1, 0, 2, 2, 2, 0, 3, 1),
		list(0, 0, 1, 1, 0, 2, 1, 3, 1, 0, 2, 3), list(0, 0, 1, 3, 1, 0, 2, 1, 1, 2, 2, 3), list(0, 0, 1, 2, 1, 0, 2, 1), list(0, 0, 1, 1, 1, 0, 2, 2),
		list(0, 0, 1, 1, 0, 2, 1, 3, 1, 0, 2, 1), list(0, 0, 1, 1, 1, 0, 2, 1, 1, 2, 2, 3), list(0, 0, 1, 1, 0, 2, 1, 3, 1, 0, 2, 1, 1, 2, 2, 4),
		list(0, 0, 1, 1, 0, 3, 1, 4, 1, 0, 2, 1, 1, 2, 2, 4), dots(1, 0), dots(199, 7), dots(200, end-1), posts(200, end), bars(200, end),
	}
}

// invalid has rectangles without cells, each for another reason.
func invalid() []api.Rect {
	return list(0, 0, 0, 0, 3, 3, 3, 4, 3, 3, 4, 3, 4, 3, 3, 4, 3, 4, 4, 3, -1, 0, 1, 1, 0, -1, 1, 1, 0, 0, end+1, 1, 0, 0, 1, end+1,
		end, 0, end+1, 1, 0, end, 1, end+1, end, end, end, end, -2, -2, -1, -1, 0, 0, math.MaxInt, math.MaxInt, 0, 0, math.MinInt, 1,
		math.MinInt, math.MinInt, math.MaxInt, math.MaxInt, 0, math.MinInt, 1, 1, math.MaxInt, 0, math.MinInt, 1, 1<<32, 0, 1<<32+1, 1)
}

// notRegions has lists that are no forms of cells, each for another reason, and forms that have too many rectangles.
func notRegions() [][]api.Rect {
	l := [][]api.Rect{
		// Slabs with equal columns.
		list(0, 0, 1, 1, 1, 0, 2, 1), list(0, 0, 1, 1, 0, 2, 1, 3, 1, 0, 2, 1, 1, 2, 2, 3), list(0, 5, 1, 6, 1, 0, 2, 1, 2, 0, 3, 1),
		list(0, 0, end-1, end, end-1, 0, end, end), list(0, 0, 1, 1, 1, 0, 2, 2, 2, 0, 3, 2, 3, 0, 4, 1),
		// Intervals that are one.
		list(0, 0, 1, 1, 0, 1, 1, 2), list(0, 0, 2, 2, 0, 1, 2, 3), list(0, 0, 1, 3, 0, 1, 1, 2), list(0, 0, 1, 1, 0, 2, 1, 3, 0, 3, 1, 4),
		list(0, 0, 1, 1, 0, 0, 1, 1), list(0, 0, 1, 1, 0, 0, 1, 2), list(5, 0, 6, 1, 7, 0, 8, 1, 7, 1, 8, 2),
		// An order that is not ascending.
		list(0, 2, 1, 3, 0, 0, 1, 1), list(2, 0, 3, 1, 0, 0, 1, 1), list(1, 1, 2, 2, 0, 0, 1, 1), list(0, 0, 1, 1, 0, 4, 1, 5, 0, 2, 1, 3),
		list(0, 0, 1, 1, 4, 0, 5, 1, 2, 0, 3, 1), list(2, 0, 3, 1, 0, 2, 1, 3), list(0, 0, 1, 1, 2, 0, 3, 1, 0, 2, 1, 3),
		// Slabs that overlap.
		list(0, 0, 2, 1, 1, 5, 3, 6), list(0, 0, 2, 1, 0, 5, 1, 6), list(0, 0, 1, 1, 0, 5, 2, 6), list(0, 0, 2, 1, 1, 5, 2, 6),
		list(0, 0, 3, 3, 1, 1, 2, 2), list(0, 0, 3, 1, 1, 3, 2, 4), list(0, 0, 9, 1, 2, 3, 3, 4, 4, 6, 5, 7), list(0, 0, 2, 2, 1, 1, 3, 3),
		// Cut into rows, or into pieces, instead.
		list(0, 1, 3, 2, 1, 0, 2, 1, 1, 2, 2, 3), list(1, 0, 2, 1, 0, 1, 3, 2, 1, 2, 2, 3), list(0, 0, 3, 1, 0, 1, 1, 3, 1, 2, 3, 3, 2, 1, 3, 2),
		// Too many rectangles.
		dots(201, 0), dots(400, 0), posts(201, end), bars(201, 1), repeat(201, list(0, 0, 1, 1)), repeat(1000, list(0, 0, 1, 1)),
	}
	for _, r := range invalid() {
		l = append(l, []api.Rect{r}, append(list(0, 0, 1, 1), r), append([]api.Rect{r}, list(9, 9, 10, 10)...))
	}
	return l
}

// fail describes a wrong result. Long lists are shortened.
func fail(t *testing.T, what any, result ...any) {
	t.Helper()
	short := func(v any) string {
		s := fmt.Sprint(v)
		return s[:min(len(s), 300)]
	}
	t.Errorf("%s: %s", short(what), short(result))
}

// check fails the test unless a call returned the wanted region and error.
func check(t *testing.T, what any, got []api.Rect, e api.Errno, want []api.Rect, is api.Errno) {
	t.Helper()
	if e != is || !slices.Equal(got, want) {
		fail(t, what, e, got, "not", is, want)
	}
}

// P6.1: Of finds the slabs and their intervals, however the cells are divided into rectangles.
func TestOf(t *testing.T) {
	for _, c := range []struct{ l, want []api.Rect }{
		{nil, nil}, {list(), nil}, {list(3, 4, 5, 6), list(3, 4, 5, 6)}, {list(0, 0, end, end), list(0, 0, end, end)},
		// Rectangles that overlap, repeat, or lie one in the other.
		{list(0, 0, 2, 2, 1, 1, 3, 3), list(0, 0, 1, 2, 1, 0, 2, 3, 2, 1, 3, 3)}, {list(1, 1, 3, 3, 0, 0, 2, 2), list(0, 0, 1, 2, 1, 0, 2, 3, 2, 1, 3, 3)},
		{list(0, 0, 2, 2, 0, 0, 2, 2), list(0, 0, 2, 2)}, {list(0, 0, 9, 9, 2, 2, 3, 3), list(0, 0, 9, 9)}, {list(2, 2, 3, 3, 0, 0, 9, 9), list(0, 0, 9, 9)},
		{list(0, 0, 4, 1, 2, 0, 6, 1), list(0, 0, 6, 1)}, {list(0, 0, 1, 4, 0, 2, 1, 6), list(0, 0, 1, 6)}, {list(0, 0, 2, 2, 0, 0, 2, 1, 0, 1, 2, 2), list(0, 0, 2, 2)},
		{list(0, 0, 3, 1, 0, 0, 1, 3), list(0, 0, 1, 3, 1, 0, 3, 1)}, {list(0, 1, 3, 2, 1, 0, 2, 3), list(0, 1, 1, 2, 1, 0, 2, 3, 2, 1, 3, 2)},
		// Rectangles that meet along a side, or at a corner only.
		{list(0, 0, 1, 1, 1, 0, 2, 1), list(0, 0, 2, 1)}, {list(1, 0, 2, 1, 0, 0, 1, 1), list(0, 0, 2, 1)}, {list(0, 0, 1, 1, 0, 1, 1, 2), list(0, 0, 1, 2)},
		{list(0, 0, 1, 1, 1, 1, 2, 2), list(0, 0, 1, 1, 1, 1, 2, 2)}, {list(1, 0, 2, 1, 0, 1, 1, 2), list(0, 1, 1, 2, 1, 0, 2, 1)},
		{list(0, 0, 1, 1, 1, 0, 2, 1, 0, 1, 2, 2), list(0, 0, 2, 2)}, {list(0, 0, 1, 2, 1, 0, 2, 1), list(0, 0, 1, 2, 1, 0, 2, 1)},
		{list(0, 0, 1, 2, 1, 1, 2, 3), list(0, 0, 1, 2, 1, 1, 2, 3)}, {list(0, 0, 2, 1, 1, 1, 3, 2), list(0, 0, 1, 1, 1, 0, 2, 2, 2, 1, 3, 2)},
		// Apart, in the order of slabs and intervals.
		{list(5, 5, 6, 6, 5, 8, 6, 9, 0, 5, 1, 6), list(0, 5, 1, 6, 5, 5, 6, 6, 5, 8, 6, 9)}, {list(5, 8, 6, 9, 5, 5, 6, 6), list(5, 5, 6, 6, 5, 8, 6, 9)},
		{list(2, 0, 3, 1, 0, 0, 1, 1), list(0, 0, 1, 1, 2, 0, 3, 1)}, {list(0, 0, 3, 1, 1, 5, 2, 6), list(0, 0, 1, 1, 1, 0, 2, 1, 1, 5, 2, 6, 2, 0, 3, 1)},
		{list(0, 0, 3, 1, 0, 5, 2, 6), list(0, 0, 2, 1, 0, 5, 2, 6, 2, 0, 3, 1)}, {list(0, 5, 3, 6, 1, 0, 3, 1), list(0, 5, 1, 6, 1, 0, 3, 1, 1, 5, 3, 6)},
		// Slabs with equal columns become one; with a slab between them they stay two.
		{list(0, 0, 1, 1, 0, 2, 1, 3, 1, 0, 2, 1, 1, 2, 2, 3), list(0, 0, 2, 1, 0, 2, 2, 3)}, {list(0, 0, 1, 1, 1, 0, 2, 1, 2, 0, 3, 1), list(0, 0, 3, 1)},
		{list(0, 0, 1, 2, 1, 0, 2, 1, 1, 1, 2, 2), list(0, 0, 2, 2)}, {list(0, 0, 1, 1, 1, 0, 2, 2, 2, 0, 3, 1), list(0, 0, 1, 1, 1, 0, 2, 2, 2, 0, 3, 1)},
		{list(0, 0, 1, 1, 2, 0, 3, 1), list(0, 0, 1, 1, 2, 0, 3, 1)}, {list(0, 0, 1, 1, 1, 0, 2, 2, 2, 0, 3, 2), list(0, 0, 1, 1, 1, 0, 3, 2)},
		// Columns that begin alike.
		{list(0, 0, 1, 1, 0, 2, 1, 3, 1, 0, 2, 1), list(0, 0, 1, 1, 0, 2, 1, 3, 1, 0, 2, 1)}, {list(0, 0, 1, 1, 1, 0, 2, 1, 1, 2, 2, 3), list(0, 0, 1, 1, 1, 0, 2, 1, 1, 2, 2, 3)},
		// Rings and holes.
		{list(0, 0, 3, 1, 0, 2, 3, 3, 0, 0, 1, 3, 2, 0, 3, 3), ring()}, {append(ring(), list(1, 1, 2, 2)...), list(0, 0, 3, 3)},
		// The borders of the grid.
		{list(0, 0, 1, end, 1, 0, end, end), list(0, 0, end, end)}, {list(0, 0, end, end/2, 0, end/2, end, end), list(0, 0, end, end)},
		{list(end-1, end-1, end, end, 0, 0, 1, 1), list(0, 0, 1, 1, end-1, end-1, end, end)}, {list(end-1, 0, end, end, 0, 0, 1, end), list(0, 0, 1, end, end-1, 0, end, end)},
		{list(0, end-1, end, end, end-1, 0, end, end), list(0, end-1, end-1, end, end-1, 0, end, end)},
	} {
		got, e := Of(c.l)
		check(t, c.l, got, e, c.want, api.OK)
	}
	for _, a := range regions() {
		got, e := Of(a)
		check(t, a, got, e, a, api.OK)
	}
}

// P6.1: one rectangle that is not right is an error, wherever it stands, and before any other error.
func TestOfInvalid(t *testing.T) {
	for _, r := range invalid() {
		for _, others := range [][]api.Rect{nil, list(0, 0, 9, 9), ring(), dots(201, 0), repeat(399, list(0, 0, 1, 1)), repeat(400, list(0, 0, 1, 1)), dots(1000, 0)} {
			for _, i := range []int{0, len(others) / 2, len(others)} {
				l := slices.Insert(slices.Clone(others), i, r)
				got, e := Of(l)
				check(t, l, got, e, nil, api.ErrArg)
			}
		}
	}
}

// P6.1: a list may be twice as long as a form, which may be as long as MaxRects.
func TestOfLimits(t *testing.T) {
	for _, c := range []struct {
		l, want []api.Rect
		is      api.Errno
	}{
		{repeat(400, list(3, 4, 5, 6)), list(3, 4, 5, 6), api.OK}, {repeat(401, list(3, 4, 5, 6)), nil, api.ErrFull},
		{append(dots(200, 0), dots(200, 0)...), dots(200, 0), api.OK}, {append(dots(200, 0), dots(200, 1)...), posts(200, 2), api.OK},
		{append(dots(200, 0), dots(201, 0)...), nil, api.ErrFull}, {append(dots(200, 0), dots(200, 2)...), nil, api.ErrFull},
		{dots(200, 5), dots(200, 5), api.OK}, {dots(201, 5), nil, api.ErrFull}, {bars(200, end), bars(200, end), api.OK}, {bars(201, end), nil, api.ErrFull},
		{append(posts(200, 5), list(0, 0, end, 5)...), list(0, 0, end, 5), api.OK}, {append(dots(400, 0), list(0, 0, end, 5)...), nil, api.ErrFull},
		{append(dots(399, 0), list(0, 0, end, 1)...), list(0, 0, end, 1), api.OK}, {append(bars(399, 1), list(0, 0, 1, end)...), list(0, 0, 1, end), api.OK},
		{repeat(1000, list(0, 0, 1, 1)), nil, api.ErrFull}, {append(posts(1, 300), bars(100, 9)...), nil, api.ErrFull},
	} {
		got, e := Of(c.l)
		check(t, len(c.l), got, e, c.want, c.is)
	}
	// Two posts across 66 bars leave three slabs with a rectangle for each bar.
	got, e := Of(append(posts(2, 300), bars(66, 9)...))
	if e != api.OK || len(got) != 200 || !Right(got) {
		fail(t, "2 + 3 * 66", e, got)
	}
}

// P6.1: Right knows the forms.
func TestRight(t *testing.T) {
	for _, a := range regions() {
		if !Right(a) {
			fail(t, a, "is a region")
		}
	}
	for _, a := range notRegions() {
		if Right(a) {
			fail(t, a, "is no region")
		}
	}
}

// pair is two regions with what comes of them.
type pair struct{ a, b, union, common, minus []api.Rect }

func pairs() []pair {
	square, all := list(0, 0, 3, 3), list(0, 0, end, end)
	return []pair{
		{nil, nil, nil, nil, nil}, {square, nil, square, nil, square}, {nil, square, square, nil, nil}, {square, square, square, square, nil},
		{square, list(1, 1, 2, 2), square, list(1, 1, 2, 2), ring()}, {list(1, 1, 2, 2), square, square, list(1, 1, 2, 2), nil},
		{ring(), list(1, 1, 2, 2), square, nil, ring()}, {ring(), square, square, ring(), nil}, {square, ring(), square, ring(), list(1, 1, 2, 2)},
		{list(0, 0, 2, 2), list(1, 1, 3, 3), list(0, 0, 1, 2, 1, 0, 2, 3, 2, 1, 3, 3), list(1, 1, 2, 2), list(0, 0, 1, 2, 1, 0, 2, 1)},
		{list(0, 0, 1, 1), list(1, 0, 2, 1), list(0, 0, 2, 1), nil, list(0, 0, 1, 1)}, {list(0, 0, 1, 1), list(0, 1, 1, 2), list(0, 0, 1, 2), nil, list(0, 0, 1, 1)},
		{list(0, 0, 1, 1), list(1, 1, 2, 2), list(0, 0, 1, 1, 1, 1, 2, 2), nil, list(0, 0, 1, 1)}, {list(5, 0, 6, 1), list(0, 5, 1, 6), list(0, 5, 1, 6, 5, 0, 6, 1), nil, list(5, 0, 6, 1)},
		{list(0, 0, 9, 1), list(3, 0, 4, 1), list(0, 0, 9, 1), list(3, 0, 4, 1), list(0, 0, 3, 1, 4, 0, 9, 1)},
		{list(0, 0, 1, 9), list(0, 3, 1, 4), list(0, 0, 1, 9), list(0, 3, 1, 4), list(0, 0, 1, 3, 0, 4, 1, 9)},
		{list(0, 0, 2, 1), list(0, 0, 2, 2), list(0, 0, 2, 2), list(0, 0, 2, 1), nil}, {list(0, 0, 2, 2), list(0, 0, 2, 1), list(0, 0, 2, 2), list(0, 0, 2, 1), list(0, 1, 2, 2)},
		// What was cut apart becomes one again, and slabs become equal.
		{list(0, 0, 1, 2, 1, 0, 2, 1), list(1, 1, 2, 2), list(0, 0, 2, 2), nil, list(0, 0, 1, 2, 1, 0, 2, 1)},
		{list(0, 0, 1, 2, 1, 0, 2, 1), list(0, 1, 1, 2), list(0, 0, 1, 2, 1, 0, 2, 1), list(0, 1, 1, 2), list(0, 0, 2, 1)},
		{list(0, 0, 1, 2, 1, 0, 2, 1), list(0, 0, 2, 1), list(0, 0, 1, 2, 1, 0, 2, 1), list(0, 0, 2, 1), list(0, 1, 1, 2)},
		// The borders of the grid.
		{all, all, all, all, nil}, {all, list(0, 0, end, end-1), all, list(0, 0, end, end-1), list(0, end-1, end, end)},
		{all, list(1, 1, end-1, end-1), all, list(1, 1, end-1, end-1), list(0, 0, 1, end, 1, 0, end-1, 1, 1, end-1, end-1, end, end-1, 0, end, end)},
		{list(0, 0, end, 1), list(end-1, 0, end, end), list(0, 0, end-1, 1, end-1, 0, end, end), list(end-1, 0, end, 1), list(0, 0, end-1, 1)},
		{list(0, 0, 1, 1), list(end-1, end-1, end, end), list(0, 0, 1, 1, end-1, end-1, end, end), nil, list(0, 0, 1, 1)},
		{list(0, 0, 1, end), list(1, 0, end, end), all, nil, list(0, 0, 1, end)},
	}
}

// P6.2: the cells in either, in both, and in the first one only.
func TestSets(t *testing.T) {
	for _, c := range pairs() {
		got, e := Union(c.a, c.b)
		check(t, []any{"Union", c.a, c.b}, got, e, c.union, api.OK)
		got, e = Common(c.a, c.b)
		check(t, []any{"Common", c.a, c.b}, got, e, c.common, api.OK)
		got, e = Minus(c.a, c.b)
		check(t, []any{"Minus", c.a, c.b}, got, e, c.minus, api.OK)
	}
}

// P6.2: what is not a region is an error in each of the arguments, also if the result would have too many rectangles.
func TestSetsInvalid(t *testing.T) {
	for i, f := range []func(a, b []api.Rect) ([]api.Rect, api.Errno){Union, Common, Minus} {
		for _, wrong := range notRegions() {
			for _, a := range [][]api.Rect{nil, list(0, 0, 9, 9), ring(), dots(200, end-3), bars(200, end)} {
				got, e := f(wrong, a)
				check(t, []any{i, wrong, a}, got, e, nil, api.ErrArg)
				got, e = f(a, wrong)
				check(t, []any{i, a, wrong}, got, e, nil, api.ErrArg)
			}
			for _, other := range [][]api.Rect{wrong, list(0, 0, 0, 0), dots(201, 5)} {
				got, e := f(wrong, other)
				check(t, []any{i, wrong, other}, got, e, nil, api.ErrArg)
			}
		}
	}
}

// P6.2: a result may have MaxRects rectangles, and not one more.
func TestSetsLimits(t *testing.T) {
	far := list(0, 9, 1, 10)
	for _, c := range []struct {
		name string
		f    func(a, b []api.Rect) ([]api.Rect, api.Errno)
		a, b []api.Rect
		n    int // of rectangles
	}{
		{"Union", Union, dots(199, 0), far, 200}, {"Union", Union, dots(200, 0), far, 201}, {"Union", Union, far, dots(200, 0), 201},
		{"Union", Union, dots(100, 0), dots(100, 2), 200}, {"Union", Union, dots(100, 0), dots(101, 2), 201}, {"Union", Union, dots(200, 0), dots(200, 9), 400},
		{"Union", Union, posts(2, 300), bars(66, 9), 200}, {"Union", Union, bars(100, 9), posts(1, 300), 201}, {"Union", Union, dots(200, 0), dots(200, 0), 200},
		{"Union", Union, dots(200, 0), dots(200, 1), 200}, {"Union", Union, bars(200, 5), list(0, 0, 5, end), 1}, {"Union", Union, bars(200, 5), posts(2, 1000), 603},
		{"Common", Common, posts(10, 300), bars(20, 300), 200}, {"Common", Common, bars(20, 300), posts(10, 300), 200}, {"Common", Common, posts(3, 300), bars(67, 300), 201},
		{"Common", Common, posts(200, 300), bars(1, 900), 200}, {"Common", Common, posts(200, 300), bars(2, 900), 400}, {"Common", Common, dots(200, 0), dots(200, 9), 0},
		{"Minus", Minus, posts(10, 300), bars(19, 300), 200}, {"Minus", Minus, posts(3, 300), bars(66, 300), 201}, {"Minus", Minus, bars(100, 300), posts(1, 300), 200},
		{"Minus", Minus, bars(67, 300), posts(2, 300), 201}, {"Minus", Minus, bars(200, end), list(0, 0, end, end), 0}, {"Minus", Minus, posts(200, 9), far, 200},
	} {
		got, e := c.f(c.a, c.b)
		if c.n > 200 {
			check(t, c.name, got, e, nil, api.ErrFull)
		} else if e != api.OK || len(got) != c.n || !Right(got) {
			fail(t, c.name, e, len(got), c.n)
		}
	}
}

// P6.2: a region moves to the very border of the grid, and not one cell beyond it.
func TestShift(t *testing.T) {
	step, low, high := list(5, 7, 6, 9, 6, 7, 7, 8), list(0, 0, 1, 1, 1, 1, 2, 2), list(end-2, end-2, end-1, end-1, end-1, end-1, end, end)
	for _, c := range []struct {
		a      []api.Rect
		dx, dy int
		want   []api.Rect // Nothing if it does not stay in the grid.
	}{
		{step, 0, 0, step}, {step, 3, 4, list(8, 11, 9, 13, 9, 11, 10, 12)}, {step, -3, 0, list(2, 7, 3, 9, 3, 7, 4, 8)}, {step, 0, -3, list(5, 4, 6, 6, 6, 4, 7, 5)},
		{step, -5, -7, list(0, 0, 1, 2, 1, 0, 2, 1)}, {step, -6, -7, nil}, {step, -5, -8, nil}, {step, -6, 0, nil}, {step, 0, -8, nil},
		{step, end - 7, end - 9, list(end-2, end-2, end-1, end, end-1, end-2, end, end-1)}, {step, end - 6, 0, nil}, {step, 0, end - 8, nil},
		{step, end - 7, end - 8, nil}, {step, end - 6, end - 9, nil}, {step, -5, end - 9, list(0, end-2, 1, end, 1, end-2, 2, end-1)}, {step, end - 7, -7, list(end-2, 0, end-1, 2, end-1, 0, end, 1)},
		{low, end - 2, end - 2, high}, {high, 2 - end, 2 - end, low}, {low, end - 1, 0, nil}, {low, 0, end - 1, nil}, {high, 1 - end, 0, nil}, {high, 0, 1 - end, nil},
		{low, -1, 0, nil}, {low, 0, -1, nil}, {high, 1, 0, nil}, {high, 0, 1, nil}, {low, end, 0, nil}, {high, 0, -end, nil},
		{list(0, 0, end, end), 0, 0, list(0, 0, end, end)}, {list(0, 0, end, end), 1, 0, nil}, {list(0, 0, end, end), 0, -1, nil},
		{list(0, 0, 1, end), end - 1, 0, list(end-1, 0, end, end)}, {list(0, 0, 1, end), end - 1, 1, nil}, {list(0, 0, end, 1), 0, end - 1, list(0, end-1, end, end)},
		{dots(200, 0), end - 400, end - 1, moved(dots(200, 0), end-400, end-1)}, {dots(200, 0), end - 399, 0, nil},
		{list(0, 5, 1, 6, 3, 0, 4, 1), 0, -1, nil}, {list(0, 0, 1, 1, 0, 5, 1, 6, 3, 2, 4, 3), 0, end - 5, nil}, {list(0, 0, 1, 1, 0, 5, 1, 6, 3, 2, 4, 3), end - 3, 0, nil},
	} {
		is := api.OK
		if c.want == nil {
			is = api.ErrRange
		}
		got, e := Shift(c.a, c.dx, c.dy)
		check(t, []any{c.a, c.dx, c.dy}, got, e, c.want, is)
	}
}

// moved returns rectangles with other numbers, whether they stay in the grid or not.
func moved(l []api.Rect, dx, dy int) []api.Rect {
	l = slices.Clone(l)
	for i, r := range l {
		l[i] = api.Rect{X0: r.X0 + dx, Y0: r.Y0 + dy, X1: r.X1 + dx, Y1: r.Y1 + dy}
	}
	return l
}

// P6.2: shifts are calculated exactly, so those that wrap around are out of range; nothing can be moved by anything.
func TestShiftFar(t *testing.T) {
	var edges []int
	for _, n := range []int{math.MinInt, math.MaxInt, 1 << 62, -1 << 62, 1 << 32, -1 << 32, 1 << 31, end + 1, -end - 1} {
		edges = append(edges, n, n+1, n-1, n+end, n-end)
	}
	for _, d := range edges {
		for _, a := range regions() {
			is := api.ErrRange
			if len(a) == 0 {
				is = api.OK
			}
			if -end < d && d < end {
				continue
			}
			for _, to := range [][2]int{{d, 0}, {0, d}, {d, d}, {d, -d}} {
				got, e := Shift(a, to[0], to[1])
				check(t, []any{a, to}, got, e, nil, is)
			}
		}
	}
	for _, wrong := range notRegions() {
		for _, d := range []int{0, 1, -1, end, -end, math.MinInt, math.MaxInt} {
			got, e := Shift(wrong, d, -d)
			check(t, []any{wrong, d}, got, e, nil, api.ErrArg)
		}
	}
}

// P6.3: what is connected along sides is one part; the parts stand in the order of their first cells.
func TestParts(t *testing.T) {
	for _, c := range []struct {
		a    []api.Rect
		want [][]api.Rect
	}{
		{nil, nil}, {list(3, 4, 5, 6), [][]api.Rect{list(3, 4, 5, 6)}}, {list(0, 0, end, end), [][]api.Rect{list(0, 0, end, end)}},
		// At a corner only.
		{list(0, 0, 1, 1, 1, 1, 2, 2), [][]api.Rect{list(0, 0, 1, 1), list(1, 1, 2, 2)}}, {list(0, 1, 1, 2, 1, 0, 2, 1), [][]api.Rect{list(0, 1, 1, 2), list(1, 0, 2, 1)}},
		{list(0, 0, 1, 2, 1, 1, 2, 3), [][]api.Rect{list(0, 0, 1, 2, 1, 1, 2, 3)}}, {list(0, 0, 1, 2, 1, 2, 2, 3), [][]api.Rect{list(0, 0, 1, 2), list(1, 2, 2, 3)}},
		// The same least x.
		{list(0, 0, 1, 1, 0, 2, 1, 3), [][]api.Rect{list(0, 0, 1, 1), list(0, 2, 1, 3)}}, {list(0, 0, 1, 1, 0, 2, 1, 3, 1, 0, 2, 3), [][]api.Rect{list(0, 0, 1, 1, 0, 2, 1, 3, 1, 0, 2, 3)}},
		{list(0, 0, 1, 1, 0, 2, 1, 3, 0, 4, 1, 5, 1, 0, 2, 1, 1, 2, 2, 5), [][]api.Rect{list(0, 0, 2, 1), list(0, 2, 1, 3, 0, 4, 1, 5, 1, 2, 2, 5)}},
		{list(0, 0, 1, 1, 0, 2, 1, 3, 0, 4, 1, 5, 1, 0, 2, 1, 1, 4, 2, 5, 2, 0, 3, 5), [][]api.Rect{list(0, 0, 2, 1, 0, 4, 2, 5, 2, 0, 3, 5), list(0, 2, 1, 3)}},
		{list(3, 0, 4, 1, 3, 2, 4, 3, 3, 4, 4, 5), [][]api.Rect{list(3, 0, 4, 1), list(3, 2, 4, 3), list(3, 4, 4, 5)}},
		// A later part lies lower; a part has its own slabs, not those of the region.
		{list(0, 9, 1, 10, 2, 0, 3, 1), [][]api.Rect{list(0, 9, 1, 10), list(2, 0, 3, 1)}}, {list(0, 0, 5, 1, 5, 0, 6, 1, 5, 5, 6, 6, 6, 0, 10, 1), [][]api.Rect{list(0, 0, 10, 1), list(5, 5, 6, 6)}},
		{list(0, 5, 1, 6, 1, 0, 2, 1, 1, 5, 2, 6, 2, 5, 3, 6), [][]api.Rect{list(0, 5, 3, 6), list(1, 0, 2, 1)}}, {list(0, 0, 1, 1, 0, 3, 1, 4, 1, 3, 2, 4), [][]api.Rect{list(0, 0, 1, 1), list(0, 3, 2, 4)}},
		// A part inside of a ring, a ring, and far corners.
		{list(0, 0, 1, 5, 1, 0, 2, 1, 1, 4, 2, 5, 2, 0, 3, 1, 2, 2, 3, 3, 2, 4, 3, 5, 3, 0, 4, 1, 3, 4, 4, 5, 4, 0, 5, 5),
			[][]api.Rect{list(0, 0, 1, 5, 1, 0, 4, 1, 1, 4, 4, 5, 4, 0, 5, 5), list(2, 2, 3, 3)}},
		{ring(), [][]api.Rect{ring()}}, {list(0, 0, 1, 1, 0, end-1, 1, end, end-1, 0, end, 1), [][]api.Rect{list(0, 0, 1, 1), list(0, end-1, 1, end), list(end-1, 0, end, 1)}},
	} {
		if !Right(c.a) {
			fail(t, c.a, "is a region")
		}
		if got := Parts(c.a); !slices.EqualFunc(got, c.want, slices.Equal) {
			fail(t, c.a, got, "not", c.want)
		}
	}
	for _, wrong := range notRegions() {
		if got := Parts(wrong); len(got) != 0 {
			fail(t, wrong, got)
		}
	}
}

// P6.3: regions of as many rectangles as there may be have as many parts, or one.
func TestManyParts(t *testing.T) {
	for _, a := range [][]api.Rect{dots(200, 3), posts(200, end), bars(200, end)} {
		l := Parts(a)
		if len(l) != 200 {
			fail(t, a, len(l))
			continue
		}
		for i, r := range a {
			if !slices.Equal(l[i], []api.Rect{r}) {
				fail(t, r, l[i])
			}
		}
	}
	var stairs []api.Rect
	for i := range 200 {
		stairs = append(stairs, list(i, i, i+1, i+2)...)
	}
	if l := Parts(stairs); len(l) != 1 || !slices.Equal(l[0], stairs) {
		fail(t, stairs, l)
	}
}

// P6.4: the area is the number of cells, which has 41 bits for the whole grid.
func TestArea(t *testing.T) {
	for _, c := range []struct {
		a    []api.Rect
		area int
	}{
		{nil, 0}, {list(0, 0, 1, 1), 1}, {list(3, 4, 5, 9), 10}, {ring(), 8}, {list(0, 0, 1, 2, 1, 0, 2, 3, 2, 1, 3, 3), 7}, {dots(200, 0), 200},
		{list(0, 0, end, end), 1 << 40}, {list(0, 0, 1, end, end-1, 0, end, end), 2 * end}, {posts(200, end), 200 * end}, {bars(200, end), 200 * end},
	} {
		if Area(c.a) != c.area {
			fail(t, c.a, Area(c.a), c.area)
		}
	}
	for _, wrong := range notRegions() {
		if Area(wrong) != 0 {
			fail(t, wrong, Area(wrong))
		}
	}
}

// around returns numbers from just outside of a range to just within it, and far ones.
func around(from, to int) []int {
	return []int{from - 1, from, from + 1, to - 1, to, -1, 0, end - 1, end, 1<<32 + from, math.MinInt, math.MinInt + from, math.MaxInt}
}

// P6.4: Has knows the cells of all rectangles, and none around them.
func TestHas(t *testing.T) {
	for _, a := range regions() {
		for _, r := range append(slices.Clone(a), list(0, 0, end, end)...) {
			for _, x := range around(r.X0, r.X1) {
				for _, y := range around(r.Y0, r.Y1) {
					is := slices.ContainsFunc(a, func(r api.Rect) bool { return r.X0 <= x && x < r.X1 && r.Y0 <= y && y < r.Y1 })
					if Has(a, x, y) != is {
						fail(t, a, x, y, "not", is)
					}
				}
			}
		}
	}
	if !Has(ring(), 2, 2) || Has(ring(), 1, 1) || !Has(dots(200, 9), 399, 9) || Has(dots(200, 9), 398, 9) {
		t.Error("the hole, or the last cell")
	}
}

// P6.4: what is not a region has no cells, also none of its valid rectangles.
func TestHasInvalid(t *testing.T) {
	for _, wrong := range notRegions() {
		for _, r := range wrong[:min(len(wrong), 5)] {
			for _, x := range around(r.X0, r.X1) {
				for _, y := range around(r.Y0, r.Y1) {
					if Has(wrong, x, y) {
						fail(t, wrong, x, y)
					}
				}
			}
		}
	}
}

// P6.4: the bounds reach from the least to the greatest cells; nothing has none.
func TestBounds(t *testing.T) {
	for _, c := range []struct{ a, want []api.Rect }{
		{list(3, 4, 5, 6), list(3, 4, 5, 6)}, {ring(), list(0, 0, 3, 3)}, {list(0, 5, 1, 6, 3, 0, 4, 1), list(0, 0, 4, 6)}, {list(0, 0, 1, 1, 3, 5, 4, 6), list(0, 0, 4, 6)},
		{list(2, 3, 4, 4, 2, 6, 4, 7), list(2, 3, 4, 7)}, {list(0, 2, 1, 9, 1, 3, 9, 5), list(0, 2, 9, 9)}, {list(0, 0, end, end), list(0, 0, end, end)},
		{list(0, 0, 1, 1, end-1, end-1, end, end), list(0, 0, end, end)}, {dots(200, 7), list(1, 7, 400, 8)}, {bars(200, end), list(0, 1, end, 400)},
	} {
		if b, is := Bounds(c.a); !is || b != c.want[0] {
			fail(t, c.a, b, is)
		}
	}
	for _, wrong := range append(notRegions(), nil, list()) {
		if b, is := Bounds(wrong); is || b != (api.Rect{}) {
			fail(t, wrong, b, is)
		}
	}
}

// P6.4: lists are the same if they are equal, regions or not; regions are the same only if they have the same cells.
func TestSame(t *testing.T) {
	all := append(regions()[1:], notRegions()...) // The first two are equal.
	for i, a := range all {
		for j, b := range all {
			if Same(a, slices.Clone(b)) != (i == j) {
				fail(t, a, b, i == j)
			}
		}
	}
	r := list(3, 4, 5, 6)
	if !Same(nil, list()) || !Same([]api.Rect{}, nil) || Same(r, nil) || Same(nil, r) || Same(r, append(list(3, 4, 5, 6), r...)) {
		t.Error("nothing, or a part")
	}
	for _, other := range [][]api.Rect{list(2, 4, 5, 6), list(3, 5, 5, 6), list(3, 4, 6, 6), list(3, 4, 5, 7)} {
		if Same(r, other) || !Same(other, slices.Clone(other)) {
			fail(t, other, r)
		}
	}
}
