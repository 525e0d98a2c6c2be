package polygon

import (
	"fmt"
	"math"
	"slices"
	"testing"

	"greenbelt/api"
	"greenbelt/region"
)

const end = 1048576 // 2^20

// points returns the points with the given coordinates, two each.
func points(n ...int) []api.Point {
	var p []api.Point
	for ; len(n) > 0; n = n[2:] {
		p = append(p, api.Point{X: n[0], Y: n[1]})
	}
	return p
}

// list returns the rectangles with the given numbers, four each, valid or not.
func list(n ...int) []api.Rect {
	var l []api.Rect
	for ; len(n) > 0; n = n[4:] {
		l = append(l, api.Rect{X0: n[0], Y0: n[1], X1: n[2], Y1: n[3]})
	}
	return l
}

// of returns the region with the cells of some rectangles.
func of(l []api.Rect) []api.Rect {
	a, e := region.Of(l)
	if e != api.OK {
		panic(fmt.Sprint("no region: ", l))
	}
	return a
}

// box returns the corners of a rectangle.
func box(x0, y0, x1, y1 int) []api.Point { return points(x0, y0, x1, y0, x1, y1, x0, y1) }

// dots returns n cells of the row y with a free one before each of them.
func dots(n, y int) []api.Rect {
	var l []api.Rect
	for i := range n {
		l = append(l, list(2*i+1, y, 2*i+2, y+1)...)
	}
	return l
}

// numbers returns n numbers: from, and so on, each one greater than the one before it, but for those with an index that
// is given, which are the same.
func numbers(from, n int, same ...int) []int {
	l := make([]int, n)
	for i := range l {
		l[i] = from
		if !slices.Contains(same, i+1) {
			from++
		}
	}
	return l
}

// comb returns a polygon with its back at the X of 0. Its teeth end, and the gaps between them begin, at the given X;
// all of them are one cell high. It has four corners for each tooth.
func comb(teeth, gaps []int) []api.Point {
	p := points(0, 0)
	for i, x := range teeth {
		p = append(p, points(x, 2*i, x, 2*i+1)...)
		if i < len(gaps) {
			p = append(p, points(gaps[i], 2*i+1, gaps[i], 2*i+2)...)
		}
	}
	return append(p, points(0, 2*len(teeth)-1)...)
}

// inComb returns the teeth of a comb, and what joins them.
func inComb(teeth, gaps []int) []api.Rect {
	var l []api.Rect
	for i, x := range teeth {
		l = append(l, list(0, 2*i, x, 2*i+1)...)
	}
	for i, x := range gaps {
		l = append(l, list(0, 2*i+1, x, 2*i+2)...)
	}
	return l
}

// stairs returns a polygon with n steps; it has 2 * n + 2 corners.
func stairs(n int) []api.Point {
	p := points(0, 0, n, 0)
	for i := range n {
		p = append(p, points(n-i, i+1, n-i-1, i+1)...)
	}
	return p
}

// inStairs returns the rows of stairs.
func inStairs(n int) []api.Rect {
	var l []api.Rect
	for i := range n {
		l = append(l, list(0, i, n-i, i+1)...)
	}
	return l
}

// coil returns a corridor, one cell wide between walls of one cell, that winds inward n times; it has 8 * n corners.
func coil(n int) []api.Point {
	var outer, inner []api.Point
	for k := range n {
		low, high := 2*k, 4*n-2*k
		outer = append(outer, points(low, low, high, low, high, high, low+2, high)...)
		inner = append(inner, points(low+1, low+1, high-1, low+1, high-1, high-1, low+3, high-1)...)
	}
	// A side of one cell closes the corridor at each of its ends.
	inner[0].X, inner[len(inner)-1].X = 0, 2*n
	slices.Reverse(inner)
	return append(outer, inner...)
}

// inCoil returns the straight parts of the corridor.
func inCoil(n int) []api.Rect {
	var l []api.Rect
	for k := range n {
		low, high := 2*k, 4*n-2*k
		l = append(l, list(low, low, high, low+1, high-1, low, high, high, low+2, high-1, high, high)...)
		if k < n-1 {
			l = append(l, list(low+2, low+2, low+3, high)...)
		}
	}
	return l
}

// shape is a polygon, with rectangles that have its cells.
type shape struct {
	p     []api.Point
	cells []api.Rect
}

// shapes has polygons of all kinds.
func shapes() []shape {
	teeth, gaps := slices.Repeat([]int{end}, 15), slices.Repeat([]int{end - 1}, 14)
	return []shape{
		// Four corners, at the borders of the grid and within it.
		{box(0, 0, 1, 1), list(0, 0, 1, 1)}, {box(3, 4, 9, 6), list(3, 4, 9, 6)}, {box(7, 5, 8, 20), list(7, 5, 8, 20)}, {box(0, 0, end, end), list(0, 0, end, end)},
		{box(end-1, end-1, end, end), list(end-1, end-1, end, end)}, {box(0, end-1, 1, end), list(0, end-1, 1, end)}, {box(end-1, 0, end, 1), list(end-1, 0, end, 1)},
		{box(0, 0, end, 1), list(0, 0, end, 1)}, {box(0, 0, 1, end), list(0, 0, 1, end)}, {box(1, 1, end-1, end-1), list(1, 1, end-1, end-1)},
		// Six corners: a rectangle without one of its corners.
		{points(0, 0, 3, 0, 3, 1, 1, 1, 1, 2, 0, 2), list(0, 0, 3, 1, 0, 0, 1, 2)}, {points(0, 0, 1, 0, 1, 1, 3, 1, 3, 2, 0, 2), list(0, 0, 1, 1, 0, 1, 3, 2)},
		{points(0, 0, 3, 0, 3, 2, 2, 2, 2, 1, 0, 1), list(0, 0, 3, 1, 2, 0, 3, 2)}, {points(0, 1, 2, 1, 2, 0, 3, 0, 3, 2, 0, 2), list(0, 1, 3, 2, 2, 0, 3, 2)},
		{points(0, 0, end, 0, end, 1, 1, 1, 1, end, 0, end), list(0, 0, end, 1, 0, 0, 1, end)},
		{points(0, end-1, end-1, end-1, end-1, 0, end, 0, end, end, 0, end), list(0, end-1, end, end, end-1, 0, end, end)},
		// Open to one of the four sides.
		{points(0, 0, 3, 0, 3, 1, 1, 1, 1, 2, 3, 2, 3, 3, 0, 3), list(0, 0, 1, 3, 0, 0, 3, 1, 0, 2, 3, 3)}, {points(0, 0, 3, 0, 3, 3, 0, 3, 0, 2, 2, 2, 2, 1, 0, 1), list(2, 0, 3, 3, 0, 0, 3, 1, 0, 2, 3, 3)},
		{points(0, 0, 3, 0, 3, 3, 2, 3, 2, 1, 1, 1, 1, 3, 0, 3), list(0, 0, 3, 1, 0, 0, 1, 3, 2, 0, 3, 3)}, {points(0, 0, 1, 0, 1, 2, 2, 2, 2, 0, 3, 0, 3, 3, 0, 3), list(0, 2, 3, 3, 0, 0, 1, 3, 2, 0, 3, 3)},
		// A T, an S, a Z and a plus.
		{points(0, 1, 1, 1, 1, 0, 2, 0, 2, 1, 3, 1, 3, 2, 0, 2), list(0, 1, 3, 2, 1, 0, 2, 1)}, {points(0, 0, 2, 0, 2, 2, 4, 2, 4, 3, 1, 3, 1, 1, 0, 1), list(0, 0, 2, 1, 1, 0, 2, 3, 1, 2, 4, 3)},
		{points(0, 2, 1, 2, 1, 0, 4, 0, 4, 1, 2, 1, 2, 3, 0, 3), list(0, 2, 2, 3, 1, 0, 2, 3, 1, 0, 4, 1)}, {points(0, 1, 1, 1, 1, 0, 2, 0, 2, 1, 3, 1, 3, 2, 2, 2, 2, 3, 1, 3, 1, 2, 0, 2), list(0, 1, 3, 2, 1, 0, 2, 3)},
		// Several sides on one line, and corners on the lines of other sides.
		{points(0, 0, 9, 0, 9, 5, 6, 5, 6, 3, 5, 3, 5, 5, 4, 5, 4, 3, 3, 3, 3, 5, 0, 5), list(0, 0, 9, 3, 0, 0, 3, 5, 4, 0, 5, 5, 6, 0, 9, 5)},
		{points(0, 0, 5, 0, 5, 1, 6, 1, 6, 0, 9, 0, 9, 3, 6, 3, 6, 2, 5, 2, 5, 3, 0, 3), list(0, 0, 5, 3, 5, 1, 6, 2, 6, 0, 9, 3)},
		{points(0, 0, 1, 0, 1, 1, 2, 1, 2, 0, 3, 0, 3, 2, 0, 2), list(0, 0, 1, 2, 0, 1, 3, 2, 2, 0, 3, 2)}, {points(0, 0, 3, 0, 3, 1, 2, 1, 2, 2, 1, 2, 1, 1, 0, 1), list(0, 0, 3, 1, 1, 0, 2, 2)},
		// Several corners with the least X, or others that lie lower than the first one.
		{points(0, 2, 2, 2, 2, 0, 3, 0, 3, 9, 0, 9, 0, 7, 1, 7, 1, 4, 0, 4), list(0, 2, 3, 4, 2, 0, 3, 9, 1, 4, 3, 9, 0, 7, 3, 9)},
		{points(5, 1, 7, 1, 7, 0, 8, 0, 8, 4, 5, 4, 5, 3, 6, 3, 6, 2, 5, 2), list(5, 1, 8, 2, 5, 3, 8, 4, 6, 1, 8, 4, 7, 0, 8, 4)},
		// Many corners.
		{coil(1), inCoil(1)}, {coil(2), inCoil(2)}, {coil(7), inCoil(7)}, {stairs(2), inStairs(2)}, {stairs(29), inStairs(29)}, {comb(teeth, gaps), inComb(teeth, gaps)},
		{comb([]int{9, 4, 7, 4}, []int{3, 1, 3}), inComb([]int{9, 4, 7, 4}, []int{3, 1, 3})}, {comb(numbers(20, 14), numbers(1, 13)), inComb(numbers(20, 14), numbers(1, 13))},
	}
}

// notPolygons has lists of points that are no polygons, each for another reason.
func notPolygons() [][]api.Point {
	return [][]api.Point{
		// Too few points, or too many.
		nil, {}, points(0, 0), points(0, 0, 1, 0), points(0, 0, 1, 0, 1, 1), points(0, 0, 1, 0, 0, 0), points(0, 0, 1, 0, 1, 1, 0, 1, 0, 0), points(0, 0, 2, 0, 2, 1, 1, 1, 0, 1),
		stairs(30), coil(8), comb(numbers(20, 16), numbers(1, 15)), stairs(1000), stairs(30)[:61], append(stairs(29), stairs(29)[59]), slices.Repeat(box(0, 0, 1, 1), 15), slices.Repeat(box(0, 0, 1, 1), 100000),
		// Outside of the grid.
		box(-1, 0, 1, 1), box(0, -1, 1, 1), box(0, 0, end+1, 1), box(0, 0, 1, end+1), box(-2, -2, -1, -1), box(end, end, end+1, end+1), box(-1, -1, end+1, end+1), box(math.MinInt, math.MinInt, math.MaxInt, math.MaxInt),
		box(math.MinInt, 0, 1, 1), box(0, math.MinInt, 1, 1), box(0, 0, math.MaxInt, 1), box(0, 0, 1, math.MaxInt), box(1<<32, 0, 1<<32+1, 1), box(0, 0, 1<<32+1, 1), box(-1<<63, -1<<63, 0, 0),
		// Clockwise.
		points(0, 0, 0, 1, 1, 1, 1, 0), points(0, 0, 0, 2, 1, 2, 1, 0), points(0, 0, 0, 2, 1, 2, 1, 1, 3, 1, 3, 0), points(0, 0, 0, end, end, end, end, 0),
		// From another corner on, in either direction.
		points(1, 0, 1, 1, 0, 1, 0, 0), points(1, 1, 0, 1, 0, 0, 1, 0), points(0, 1, 0, 0, 1, 0, 1, 1), points(0, 1, 1, 1, 1, 0, 0, 0), points(1, 1, 1, 0, 0, 0, 0, 1), points(1, 0, 0, 0, 0, 1, 1, 1),
		points(0, 7, 1, 7, 1, 4, 0, 4, 0, 2, 3, 2, 3, 9, 0, 9), points(2, 0, 3, 0, 3, 2, 0, 2, 0, 1, 2, 1),
		// Two successive sides that are both horizontal, or both vertical.
		points(0, 0, 1, 0, 2, 0, 2, 1, 0, 1), points(0, 0, 2, 0, 2, 1, 1, 1, 0, 1), points(0, 0, 1, 0, 1, 1, 1, 2, 0, 2), points(0, 0, 1, 0, 1, 2, 0, 2, 0, 1), points(0, 0, 1, 0, 2, 0, 2, 1, 1, 1, 0, 1),
		points(0, 0, 1, 0, 1, 1, 1, 2, 0, 2, 0, 1), points(0, 0, 3, 0, 2, 0, 2, 1, 0, 1), points(0, 0, 2, 0, 2, 3, 2, 2, 0, 2), points(0, 0, 1, 0, 2, 0, 3, 0), points(0, 0, 1, 0, 2, 0, 2, 1, 2, 2, 0, 2),
		points(0, 0, 3, 0, 1, 0, 2, 0), points(0, 0, 2, 0, 2, 2, 1, 2, 3, 2, 3, 3, 0, 3), points(0, 1, 2, 1, 2, 2, 0, 2, 0, 0, 0, 3),
		// Sides of length 0.
		points(0, 0, 0, 0, 0, 0, 0, 0), points(5, 5, 5, 5, 5, 5, 5, 5, 5, 5, 5, 5), points(0, 0, 1, 0, 1, 0, 1, 1, 0, 1), points(0, 0, 0, 0, 1, 0, 1, 1, 0, 1), points(0, 0, 1, 0, 1, 0, 1, 0, 1, 1, 0, 1), points(0, 0, 1, 0, 1, 1, 0, 1, 0, 1, 0, 1),
		points(0, 0, 1, 0, 1, 1, 0, 1, 0, 0, 0, 0), points(0, 0, 1, 0, 1, 0, 0, 0), points(0, 0, 0, 0, 0, 1, 0, 1), points(0, 0, 0, 0, 1, 0, 1, 0), points(0, 0, 1, 0, 1, 1, 1, 1, 1, 2, 0, 2), points(0, 0, 2, 0, 2, 1, 2, 1, 0, 1),
		// Slanting sides.
		points(0, 0, 1, 1, 0, 1, 0, 2), points(0, 0, 1, 0, 2, 1, 0, 1), points(0, 0, 2, 0, 2, 1, 1, 1, 0, 2), points(0, 0, 2, 0, 2, 2, 1, 2, 0, 1), points(0, 0, 2, 1, 2, 2, 0, 2), points(0, 0, 1, 0, 1, 2, 0, 1), points(0, 0, 3, 0, 3, 1, 2, 2, 1, 1, 1, 2, 0, 2),
		points(0, 0, 2, 0, 2, 2, 1, 2), points(0, 1, 1, 0, 2, 1, 1, 2), points(0, 0, 1, 0, 1, 1, 2, 2, 0, 2), points(0, 0, end, end, end, 0, 0, end), points(0, 0, 2, 0, 2, 1, 1, 1, 1, 2, 0, 3), points(0, 0, 3, 0, 3, 2, 1, 2, 1, 1, 0, 2),
		// Sides that cross.
		points(0, 0, 3, 0, 3, 3, 1, 3, 1, 1, 2, 1, 2, 2, 0, 2), points(0, 0, 2, 0, 2, 2, 1, 2, 1, 1, 3, 1, 3, 3, 0, 3), points(0, 0, 3, 0, 3, 2, 1, 2, 1, 1, 4, 1, 4, 3, 0, 3), points(0, 1, 3, 1, 3, 3, 2, 3, 2, 0, 4, 0, 4, 4, 0, 4),
		points(0, 2, 4, 2, 4, 0, 2, 0, 2, 4, 0, 4), points(0, 0, 2, 0, 2, 2, 4, 2, 4, 1, 0, 1), points(0, 0, 9, 0, 9, 9, 2, 9, 2, 4, 5, 4, 5, 10, 0, 10),
		// Sides that touch: a corner on a side, or on another corner.
		points(0, 0, 3, 0, 3, 3, 1, 3, 1, 1, 3, 1, 3, 2, 0, 2), points(0, 0, 4, 0, 4, 2, 3, 2, 3, 0, 2, 0, 2, 1, 0, 1), points(0, 0, 5, 0, 5, 3, 2, 3, 2, 0, 1, 0, 1, 4, 0, 4), points(0, 0, 3, 0, 3, 2, 2, 2, 2, 1, 1, 1, 1, 2, 2, 2, 2, 3, 0, 3),
		points(0, 0, 3, 0, 3, 2, 2, 2, 2, 0, 1, 0, 1, 1, 0, 1), points(0, 0, 1, 0, 1, 1, 2, 1, 2, 2, 1, 2, 1, 1, 0, 1), points(0, 1, 1, 1, 1, 0, 2, 0, 2, 1, 1, 1, 1, 2, 0, 2), points(0, 0, 2, 0, 2, 2, 1, 2, 1, 1, 2, 1, 2, 3, 0, 3),
		points(0, 0, 2, 0, 2, 1, 1, 1, 1, 2, 2, 2, 2, 1, 3, 1, 3, 3, 0, 3), points(0, 0, 4, 0, 4, 2, 2, 2, 2, 1, 1, 1, 1, 3, 2, 3, 2, 2, 3, 2, 3, 4, 0, 4),
		points(0, 0, 3, 0, 3, 2, 1, 2, 1, 0, 2, 0, 2, 1, 0, 1), points(0, 0, 2, 0, 2, 3, 1, 3, 1, 2, 0, 2, 0, 1, 1, 1, 1, 2, 0, 2),
		// Sides that lie one on the other, wholly or in part.
		points(0, 0, 1, 0, 1, 1, 1, 0), points(0, 0, 2, 0, 2, 1, 0, 1, 0, 0, 2, 0, 2, 1, 0, 1), points(0, 0, 3, 0, 3, 2, 2, 2, 2, 1, 3, 1, 3, 3, 0, 3), points(0, 0, 4, 0, 4, 1, 1, 1, 1, 2, 3, 2, 3, 1, 2, 1, 2, 3, 0, 3), points(0, 0, 1, 0, 1, 1, 0, 1, 0, 0, 1, 0, 1, 1, 0, 1),
		points(0, 0, 3, 0, 3, 3, 2, 3, 2, 2, 3, 2, 3, 1, 0, 1), points(0, 0, 4, 0, 4, 1, 3, 1, 3, 0, 2, 0, 2, 1, 0, 1), points(0, 0, 2, 0, 2, 1, 0, 1, 0, 2, 2, 2, 2, 3, 0, 3), points(0, 0, 3, 0, 3, 1, 2, 1, 2, 2, 3, 2, 3, 1, 1, 1, 1, 2, 0, 2),
	}
}

// fail describes a wrong result. Long lists are shortened.
func fail(t *testing.T, what any, result ...any) {
	t.Helper()
	short := func(v any) string {
		s := fmt.Sprint(v)
		return s[:min(len(s), 300)]
	}
	t.Errorf("%s: %s", short(what), short(result))
}

// checkPolygon fails the test unless a polygon is known as one, with these rectangles as its region and a loop that is
// this polygon.
func checkPolygon(t *testing.T, p []api.Point, want []api.Rect) {
	t.Helper()
	if !Right(p) || Area(p) != region.Area(want) {
		fail(t, p, Right(p), Area(p))
	}
	got, e := Region(p)
	if e != api.OK || !slices.Equal(got, want) {
		fail(t, p, e, got, "not", want)
	}
	checkLoops(t, got, [][]api.Point{p})
}

// checkNone fails the test unless points are not taken for a polygon.
func checkNone(t *testing.T, p []api.Point) {
	t.Helper()
	if a, e := Region(p); Right(p) || Area(p) != 0 || a != nil || e != api.ErrShape {
		fail(t, p, Right(p), Area(p), a, e)
	}
}

// checkLoops fails the test unless a region has the wanted outline.
func checkLoops(t *testing.T, a []api.Rect, want [][]api.Point) {
	t.Helper()
	if got := Outline(a); !slices.EqualFunc(got, want, slices.Equal) {
		fail(t, a, got, "not", want)
	}
}

// P7.1, P7.4: polygons have the cells between their sides, and are the outlines of them.
func TestPolygons(t *testing.T) {
	for _, s := range shapes() {
		checkPolygon(t, s.p, of(s.cells))
	}
	// The regions of some as they are written in the chapter, and by hand.
	p := points(0, 0, 3, 0, 3, 1, 1, 1, 1, 2, 0, 2)
	if a, _ := Region(p); !slices.Equal(a, list(0, 0, 1, 2, 1, 0, 3, 1)) || Area(p) != 4 {
		fail(t, p, a, Area(p))
	}
	p = points(0, 1, 1, 1, 1, 0, 2, 0, 2, 1, 3, 1, 3, 2, 2, 2, 2, 3, 1, 3, 1, 2, 0, 2)
	if a, _ := Region(p); !slices.Equal(a, list(0, 1, 1, 2, 1, 0, 2, 3, 2, 1, 3, 2)) || Area(p) != 5 {
		fail(t, p, a, Area(p))
	}
	if Area(box(0, 0, end, end)) != 1<<40 || Area(coil(2)) != 32 || Area(stairs(29)) != 435 {
		t.Error("areas", Area(box(0, 0, end, end)), Area(coil(2)), Area(stairs(29)))
	}
}

// P7.1: what has not all properties is no polygon.
func TestNoPolygons(t *testing.T) {
	for _, p := range notPolygons() {
		checkNone(t, p)
	}
}

// P7.1: a polygon begins with its least corner and goes counterclockwise; no other list of its corners, and none that
// lacks one or has one twice, is a polygon.
func TestOrder(t *testing.T) {
	for _, s := range shapes() {
		back := slices.Clone(s.p)
		slices.Reverse(back)
		for i := range s.p {
			checkNone(t, append(slices.Clone(back[i:]), back[:i]...))
			checkNone(t, slices.Delete(slices.Clone(s.p), i, i+1))
			checkNone(t, slices.Insert(slices.Clone(s.p), i, s.p[i]))
			checkNone(t, slices.Insert(slices.Clone(s.p), i, s.p[i], s.p[i]))
			if i > 0 {
				checkNone(t, append(slices.Clone(s.p[i:]), s.p[:i]...))
			}
			if i < 4 || i%2 == 1 {
				checkNone(t, s.p[:i])
			}
		}
		checkNone(t, append(slices.Clone(s.p), s.p[0]))
		checkNone(t, append(slices.Clone(s.p), s.p...))
	}
}

// P7.1: two corners that lie on a side are too many, and so is one.
func TestBetween(t *testing.T) {
	for _, s := range shapes() {
		for i, from := range s.p {
			to := s.p[(i+1)%len(s.p)]
			half := api.Point{X: (from.X + to.X) / 2, Y: (from.Y + to.Y) / 2}
			checkNone(t, slices.Insert(slices.Clone(s.p), i+1, half))
			checkNone(t, slices.Insert(slices.Clone(s.p), i+1, half, half))
			checkNone(t, slices.Insert(slices.Clone(s.p), i+1, to, from))
		}
	}
}

// P7.1: no coordinate may lie outside of the grid, in whichever corner, and also if the whole side does.
func TestCoordinates(t *testing.T) {
	for _, n := range []int{-1, end + 1, math.MinInt, math.MaxInt, -end, 2 * end, 1 << 32, 1<<32 + 1, math.MinInt + 1} {
		for _, s := range shapes() {
			for i := range s.p {
				p := slices.Clone(s.p)
				p[i].X = n
				checkNone(t, p)
				p[i].Y = n
				checkNone(t, p)
				p[i].X = s.p[i].X
				checkNone(t, p)
				p, next := slices.Clone(s.p), (i+1)%len(s.p)
				if p[i].X == p[next].X {
					p[i].X, p[next].X = n, n
				} else {
					p[i].Y, p[next].Y = n, n
				}
				checkNone(t, p)
			}
		}
	}
	// The greatest coordinate is that of the corners at the border.
	for _, p := range [][]api.Point{box(0, 0, end, 1), box(0, 0, 1, end), box(end-1, 0, end, end), box(0, end-1, end, end)} {
		if !Right(p) {
			fail(t, p, "is a polygon")
		}
	}
}

// P7.1: a polygon has up to MaxCorners corners.
func TestCorners(t *testing.T) {
	if len(stairs(29)) != 60 || len(stairs(30)) != 62 || len(comb(numbers(20, 15), numbers(1, 14))) != 60 || len(coil(8)) != 64 {
		t.Fatal("other numbers of corners")
	}
	for n := 1; n <= 100; n++ {
		if Right(stairs(n)) != (n <= 29) || Right(coil(n)) != (n <= 7) || Right(comb(numbers(200, n), numbers(1, n-1))) != (n <= 15) {
			t.Error(n)
		}
	}
}

// P7.1: the region of a polygon may have MaxRects rectangles, and not one more.
func TestFull(t *testing.T) {
	// A comb of 15 teeth has 14 slabs that end with a gap, with 1 to 14 rectangles, one of 15, and 14 that begin with an
	// end of a tooth, with 14 to 1. Where two numbers are the same, a slab is left out.
	for _, c := range []struct {
		teeth, gaps []int // The indices of those that are the same as the one before them.
		n           int   // of rectangles
	}{
		{nil, nil, 225}, {[]int{14}, nil, 224}, {[]int{1, 4}, nil, 200}, {[]int{1, 5}, nil, 201}, {nil, []int{10, 13}, 200}, {nil, []int{9, 13}, 201}, {[]int{1}, []int{10}, 200},
		{[]int{1}, []int{9}, 201}, {[]int{3}, []int{12}, 200}, {[]int{4}, []int{12}, 201}, {[]int{1, 2}, nil, 198}, {[]int{1, 2, 3, 4, 5, 6}, numbers(1, 13), 52}, {numbers(1, 14), numbers(1, 13), 16},
	} {
		for _, from := range []int{200, end - 20} {
			teeth, gaps := numbers(from, 15, c.teeth...), numbers(1, 14, c.gaps...)
			p, cells := comb(teeth, gaps), inComb(teeth, gaps)
			if c.n <= 200 {
				checkPolygon(t, p, of(cells))
			}
			sum := 0
			for _, r := range cells {
				sum += r.X1 - r.X0
			}
			a, e := Region(p)
			if full := c.n > 200; !Right(p) || Area(p) != sum || (e == api.ErrFull) != full || full && a != nil || !full && len(a) != c.n {
				fail(t, c, Right(p), Area(p), e, len(a), a)
			}
		}
	}
}

// outline is a set of cells, with the loops of its boundary.
type outline struct {
	cells []api.Rect
	loops [][]api.Point
}

func outlines() []outline {
	ring, holes := list(0, 0, 3, 1, 0, 2, 3, 3, 0, 0, 1, 3, 2, 0, 3, 3), list(0, 0, 5, 1, 0, 4, 5, 5, 0, 0, 1, 5, 4, 0, 5, 5)
	return []outline{
		{nil, nil}, {list(), nil},
		// Single cells and rectangles, at the borders of the grid and within it.
		{list(2, 1, 4, 2), [][]api.Point{box(2, 1, 4, 2)}}, {list(0, 0, 1, 1), [][]api.Point{box(0, 0, 1, 1)}}, {list(end-1, end-1, end, end), [][]api.Point{box(end-1, end-1, end, end)}},
		{list(0, end-1, 1, end), [][]api.Point{box(0, end-1, 1, end)}}, {list(end-1, 0, end, 1), [][]api.Point{box(end-1, 0, end, 1)}}, {list(0, 0, end, end), [][]api.Point{box(0, 0, end, end)}},
		// Holes, islands in them, and holes in islands.
		{ring, [][]api.Point{box(0, 0, 3, 3), points(1, 1, 1, 2, 2, 2, 2, 1)}}, {append(list(2, 2, 3, 3), holes...), [][]api.Point{box(0, 0, 5, 5), points(1, 1, 1, 4, 4, 4, 4, 1), box(2, 2, 3, 3)}},
		{list(0, 0, 9, 1, 0, 8, 9, 9, 0, 0, 1, 9, 8, 0, 9, 9, 2, 2, 7, 3, 2, 6, 7, 7, 2, 2, 3, 7, 6, 2, 7, 7, 4, 4, 5, 5),
			[][]api.Point{box(0, 0, 9, 9), points(1, 1, 1, 8, 8, 8, 8, 1), box(2, 2, 7, 7), points(3, 3, 3, 6, 6, 6, 6, 3), box(4, 4, 5, 5)}},
		{append(list(1, 2, 4, 3), holes...), [][]api.Point{box(0, 0, 5, 5), points(1, 1, 1, 2, 4, 2, 4, 1), points(1, 3, 1, 4, 4, 4, 4, 3)}},
		{append(list(2, 1, 3, 4), holes...), [][]api.Point{box(0, 0, 5, 5), points(1, 1, 1, 4, 2, 4, 2, 1), points(3, 1, 3, 4, 4, 4, 4, 1)}},
		{append(list(1, 1, 2, 3), holes...), [][]api.Point{box(0, 0, 5, 5), points(1, 3, 1, 4, 4, 4, 4, 1, 2, 1, 2, 3)}}, {append(list(1, 2, 3, 3), holes...), [][]api.Point{box(0, 0, 5, 5), points(1, 1, 1, 2, 3, 2, 3, 3, 1, 3, 1, 4, 4, 4, 4, 1)}},
		{list(0, 0, end, 1, 0, end-1, end, end, 0, 0, 1, end, end-1, 0, end, end), [][]api.Point{box(0, 0, end, end), points(1, 1, 1, end-1, end-1, end-1, end-1, 1)}},
		// Parts that meet at a corner: each has a loop of its own.
		{list(0, 0, 1, 1, 1, 1, 2, 2), [][]api.Point{box(0, 0, 1, 1), box(1, 1, 2, 2)}}, {list(0, 1, 1, 2, 1, 0, 2, 1), [][]api.Point{box(0, 1, 1, 2), box(1, 0, 2, 1)}},
		{list(0, 0, 5, 5, 5, 5, 6, 6), [][]api.Point{box(0, 0, 5, 5), box(5, 5, 6, 6)}}, {list(0, 5, 5, 6, 5, 0, 9, 5), [][]api.Point{box(0, 5, 5, 6), box(5, 0, 9, 5)}},
		{list(0, 1, 1, 2, 1, 0, 2, 1, 1, 2, 2, 3, 2, 1, 3, 2), [][]api.Point{box(0, 1, 1, 2), box(1, 0, 2, 1), box(1, 2, 2, 3), box(2, 1, 3, 2)}},
		{list(0, 0, 1, 1, 0, 2, 1, 3, 1, 1, 2, 2, 2, 0, 3, 1, 2, 2, 3, 3), [][]api.Point{box(0, 0, 1, 1), box(0, 2, 1, 3), box(1, 1, 2, 2), box(2, 0, 3, 1), box(2, 2, 3, 3)}},
		// A part that meets itself at a corner, and holes that do: one loop passes this corner twice.
		{list(0, 0, 1, 3, 1, 0, 2, 1, 1, 2, 2, 3, 2, 0, 3, 2), [][]api.Point{points(0, 0, 3, 0, 3, 2, 2, 2, 2, 1, 1, 1, 1, 2, 2, 2, 2, 3, 0, 3)}},
		{list(0, 0, 3, 1, 0, 0, 1, 2, 1, 2, 3, 3, 2, 0, 3, 3), [][]api.Point{points(0, 0, 3, 0, 3, 3, 1, 3, 1, 2, 2, 2, 2, 1, 1, 1, 1, 2, 0, 2)}},
		{list(1, 0, 3, 1, 0, 1, 1, 3, 0, 2, 3, 3, 2, 0, 3, 3), [][]api.Point{points(0, 1, 1, 1, 1, 2, 2, 2, 2, 1, 1, 1, 1, 0, 3, 0, 3, 3, 0, 3)}},
		{list(0, 0, 2, 1, 0, 0, 1, 3, 0, 2, 3, 3, 2, 1, 3, 3), [][]api.Point{points(0, 0, 2, 0, 2, 1, 1, 1, 1, 2, 2, 2, 2, 1, 3, 1, 3, 3, 0, 3)}},
		{list(0, 0, 4, 1, 0, 3, 4, 4, 0, 0, 1, 4, 3, 0, 4, 4, 1, 2, 2, 3, 2, 1, 3, 2), [][]api.Point{box(0, 0, 4, 4), points(1, 1, 1, 2, 2, 2, 2, 3, 3, 3, 3, 2, 2, 2, 2, 1)}},
		{list(0, 0, 4, 1, 0, 3, 4, 4, 0, 0, 1, 4, 3, 0, 4, 4, 1, 1, 2, 2, 2, 2, 3, 3), [][]api.Point{box(0, 0, 4, 4), points(1, 2, 1, 3, 2, 3, 2, 2, 3, 2, 3, 1, 2, 1, 2, 2)}},
		// Several parts, some with the same least X, or the same Y.
		{list(0, 0, 1, 1, 0, 2, 1, 3), [][]api.Point{box(0, 0, 1, 1), box(0, 2, 1, 3)}}, {list(0, 4, 9, 5, 0, 2, 1, 3, 0, 0, 5, 1), [][]api.Point{box(0, 0, 5, 1), box(0, 2, 1, 3), box(0, 4, 9, 5)}},
		{list(0, 0, 1, 1, 2, 0, 3, 1), [][]api.Point{box(0, 0, 1, 1), box(2, 0, 3, 1)}}, {list(0, 9, 5, 10, 1, 0, 2, 8, 3, 3, 4, 4), [][]api.Point{box(0, 9, 5, 10), box(1, 0, 2, 8), box(3, 3, 4, 4)}},
		{list(0, 0, 1, 1, 0, end-1, 1, end, end-1, 0, end, 1, end-1, end-1, end, end), [][]api.Point{box(0, 0, 1, 1), box(0, end-1, 1, end), box(end-1, 0, end, 1), box(end-1, end-1, end, end)}},
		// A hole that begins before another part, at the same X as one, and after one.
		{append(list(4, 0, 5, 1), ring...), [][]api.Point{box(0, 0, 3, 3), points(1, 1, 1, 2, 2, 2, 2, 1), box(4, 0, 5, 1)}}, {append(list(1, 9, 2, 10), ring...), [][]api.Point{box(0, 0, 3, 3), points(1, 1, 1, 2, 2, 2, 2, 1), box(1, 9, 2, 10)}},
		{append(list(0, 9, 2, 10), ring...), [][]api.Point{box(0, 0, 3, 3), box(0, 9, 2, 10), points(1, 1, 1, 2, 2, 2, 2, 1)}},
	}
}

// P7.2: the loops of outer boundaries go counterclockwise, and those of holes clockwise, in the order of their least
// points; where parts meet at a corner, the way turns left.
func TestOutline(t *testing.T) {
	for _, c := range outlines() {
		checkLoops(t, of(c.cells), c.loops)
	}
}

// P7.2: a list that is not a region has no outline.
func TestNoOutline(t *testing.T) {
	for _, a := range [][]api.Rect{
		list(0, 0, 0, 0), list(1, 1, 1, 2), list(1, 1, 2, 1), list(3, 3, 2, 2), list(-1, 0, 1, 1), list(0, -1, 1, 1), list(0, 0, end+1, 1), list(0, 0, 1, end+1), list(0, 0, math.MaxInt, math.MaxInt),
		list(math.MinInt, math.MinInt, math.MaxInt, math.MaxInt), list(math.MinInt, 0, 1, 1), list(0, 0, 1, 1, 2, 2, 2, 2), list(0, 0, 2, 1, 2, 0, 3, 1), list(0, 0, 1, 1, 0, 1, 1, 2), list(0, 0, 2, 2, 1, 1, 3, 3),
		list(1, 1, 2, 2, 0, 0, 1, 1), list(0, 2, 1, 3, 0, 0, 1, 1), list(0, 0, 1, 1, 0, 0, 1, 1), list(0, 0, 3, 3, 1, 1, 2, 2), dots(201, 0), dots(100000, 0), slices.Repeat(list(0, 0, 1, 1), 201),
	} {
		if got := Outline(a); len(got) != 0 {
			fail(t, a, got)
		}
	}
}

// P7.2: regions with as many rectangles as possible have many loops, or long ones.
func TestOutlineLimits(t *testing.T) {
	var cells [][]api.Point
	for _, r := range dots(200, 7) {
		cells = append(cells, box(r.X0, r.Y0, r.X1, r.Y1))
	}
	checkLoops(t, dots(200, 7), cells)
	teeth, gaps := slices.Repeat([]int{end}, 199), slices.Repeat([]int{1}, 198)
	if a := of(inComb(teeth, gaps)); len(a) != 200 {
		t.Error(len(a))
	}
	checkLoops(t, of(inComb(teeth, gaps)), [][]api.Point{comb(teeth, gaps)})
	checkLoops(t, of(inStairs(200)), [][]api.Point{stairs(200)})
	// A row of 66 holes, one cell each.
	holes, loops := list(0, 0, 133, 1, 0, 2, 133, 3), [][]api.Point{box(0, 0, 133, 3)}
	for i := range 67 {
		holes = append(holes, list(2*i, 1, 2*i+1, 2)...)
	}
	for i := range 66 {
		loops = append(loops, points(2*i+1, 1, 2*i+1, 2, 2*i+2, 2, 2*i+2, 1))
	}
	if a := of(holes); len(a) != 199 {
		t.Error(len(a))
	}
	checkLoops(t, of(holes), loops)
	// All black cells of a board of 20 by 20: each of them is a part.
	var board []api.Rect
	cells = nil
	for x := range 20 {
		for y := x % 2; y < 20; y += 2 {
			board, cells = append(board, list(x, y, x+1, y+1)...), append(cells, box(x, y, x+1, y+1))
		}
	}
	checkLoops(t, of(board), cells)
}
