package rect

import (
	"math"
	"slices"
	"testing"

	"greenbelt/api"
)

const end = 1048576 // 2^20

// at returns a rectangle as it is written, valid or not.
func at(x0, y0, x1, y1 int) api.Rect { return api.Rect{X0: x0, Y0: y0, X1: x1, Y1: y1} }

// sample has valid rectangles: small ones, ones at the borders of the grid, ones that span it, and all of it.
func sample() []api.Rect {
	return []api.Rect{
		at(0, 0, 1, 1), at(1, 0, 2, 1), at(0, 1, 1, 2), at(1, 1, 2, 2), at(0, 0, 2, 2), at(0, 0, 3, 2), at(2, 1, 9, 9),
		at(3, 2, 4, 4), at(5, 0, 6, 1), at(10, 10, 20, 15), at(12, 11, 14, 12), at(20, 15, 25, 30), at(3, 15, 11, 16),
		at(end-1, 0, end, 1), at(0, end-1, 1, end), at(end-1, end-1, end, end), at(end-2, end-2, end-1, end-1),
		at(end-3, 7, end, 8), at(7, end-3, 8, end), at(end-9, end-9, end-1, end-2), at(1, 1, end-1, end-1),
		at(0, 0, end, 1), at(0, 0, 1, end), at(0, end-1, end, end), at(end-1, 0, end, end), at(5, 0, 6, end),
		at(0, 5, end, 6), at(0, 0, end/2, end), at(end/2, 0, end, end), at(0, end/2, end, end), at(0, 0, end, end),
		at(end/2-1, end/2-1, end/2+1, end/2+1), at(end/2, end/2, end/2+1, end/2+1),
	}
}

// bad has rectangles that are not valid, each for another reason or at another edge of one.
func bad() []api.Rect {
	l := []api.Rect{{}, at(end, end, end, end), at(math.MinInt, math.MinInt, math.MaxInt, math.MaxInt)}
	// One direction is not valid, the other one is.
	for _, c := range [][2]int{
		{0, 0}, {3, 3}, {4, 3}, {9, 0}, {end, end}, {end - 1, end - 1}, {end, end - 1}, {end, 0}, {1, -1},
		{-1, 0}, {-1, 1}, {-1, end}, {-1, -1}, {-2, -1}, {0, -1}, {-end, end},
		{0, end + 1}, {end - 1, end + 1}, {end, end + 1}, {end + 1, end + 2}, {end + 1, end + 1}, {end + 1, end}, {5, 1 << 32},
		{math.MinInt, 1}, {math.MinInt, math.MaxInt}, {0, math.MaxInt}, {math.MaxInt, 1}, {1, math.MinInt},
		{math.MaxInt, math.MinInt}, {math.MinInt, math.MinInt}, {math.MaxInt, math.MaxInt}, {math.MinInt, end}, {-1 << 32, 5},
		{math.MinInt, math.MinInt + 1}, {math.MaxInt - 1, math.MaxInt}, {1<<32 + 1, 1<<32 + 2}, {math.MinInt, 0}, {end, math.MaxInt},
	} {
		l = append(l, at(c[0], 2, c[1], 5), at(2, c[0], 5, c[1]), at(c[0], c[0], c[1], c[1]))
	}
	return l
}

// checkFound fails the test unless a call returned the wanted rectangle and true, or, if that is zero, it and false.
func checkFound(t *testing.T, what any, got api.Rect, is bool, want api.Rect) {
	t.Helper()
	if got != want || is != (want != api.Rect{}) {
		t.Errorf("%v: %v, %v, not %v", what, got, is, want)
	}
}

// P5.1: a rectangle is valid if both ranges lie in the grid and are not empty.
func TestRight(t *testing.T) {
	for _, r := range sample() {
		if !Right(r) {
			t.Errorf("%v is valid", r)
		}
	}
	for _, r := range bad() {
		if Right(r) {
			t.Errorf("%v is not valid", r)
		}
	}
}

// P5.1: Area counts the cells of a rectangle, of which there are none if it is not valid.
func TestArea(t *testing.T) {
	for _, c := range []struct {
		r    api.Rect
		area int
	}{
		{at(0, 0, 3, 2), 6}, {at(0, 0, 1, 1), 1}, {at(4, 9, 5, 10), 1}, {at(10, 10, 20, 15), 50}, {at(10, 10, 15, 20), 50},
		{at(end-1, end-1, end, end), 1}, {at(0, 0, end, 1), end}, {at(0, 0, 1, end), end}, {at(0, 0, end, end), 1 << 40},
		{at(1, 1, end, end), (end - 1) * (end - 1)}, {at(end/2, 0, end, end), 1 << 39},
	} {
		if Area(c.r) != c.area {
			t.Errorf("%v: %d, not %d", c.r, Area(c.r), c.area)
		}
	}
	for _, r := range bad() {
		if Area(r) != 0 {
			t.Errorf("%v: %d", r, Area(r))
		}
	}
}

// P5.1: Has knows the first and the last cells, and those just beyond them.
func TestHas(t *testing.T) {
	for _, r := range sample() {
		for _, x := range []int{r.X0 - 1, r.X0, r.X1 - 1, r.X1} {
			for _, y := range []int{r.Y0 - 1, r.Y0, r.Y1 - 1, r.Y1} {
				if is := r.X0 <= x && x < r.X1 && r.Y0 <= y && y < r.Y1; Has(r, x, y) != is {
					t.Errorf("%v, %d, %d: not %v", r, x, y, is)
				}
			}
		}
		for _, far := range []int{-1, -end, end, end + 1, 1<<32 + r.X0, math.MinInt, math.MaxInt, math.MinInt + r.X0} {
			if Has(r, far, r.Y0) || Has(r, r.X0, far) || Has(r, far, far) {
				t.Errorf("%v: %d is outside of the grid", r, far)
			}
		}
	}
}

// P5.1: what is not valid has no cells, also none between its numbers.
func TestHasInvalid(t *testing.T) {
	numbers := []int{math.MinInt, math.MinInt + 1, -end, -2, -1, 0, 1, 2, 3, 4, 5, 6, end - 1, end, end + 1, 1 << 32, math.MaxInt}
	for _, r := range bad() {
		for _, x := range numbers {
			for _, y := range numbers {
				if Has(r, x, y) {
					t.Errorf("%v has %d, %d", r, x, y)
				}
			}
		}
	}
}

// P5.1: Inside compares cells, and rectangles that are not valid are neither inside nor outside.
func TestInside(t *testing.T) {
	b := at(10, 10, 20, 15)
	for _, c := range []struct {
		a  api.Rect
		is bool
	}{
		{b, true}, {at(12, 11, 14, 12), true}, {at(10, 10, 11, 11), true}, {at(19, 14, 20, 15), true}, {at(10, 12, 20, 13), true},
		{at(9, 10, 20, 15), false}, {at(10, 9, 20, 15), false}, {at(10, 10, 21, 15), false}, {at(10, 10, 20, 16), false},
		{at(9, 9, 21, 16), false}, {at(20, 10, 21, 15), false}, {at(10, 15, 20, 16), false}, {at(0, 0, 1, 1), false},
		{at(12, 11, 12, 12), false}, {at(12, 12, 14, 11), false}, {at(15, 12, 14, 13), false}, {api.Rect{}, false},
	} {
		if Inside(c.a, b) != c.is {
			t.Errorf("%v inside %v: not %v", c.a, b, c.is)
		}
	}
	all := at(0, 0, end, end)
	for _, r := range sample() {
		if !Inside(r, r) || !Inside(r, all) || Inside(all, r) != (r == all) {
			t.Error(r)
		}
	}
	for _, r := range bad() {
		if Inside(r, r) || Inside(r, all) || Inside(all, r) || Inside(r, b) || Inside(b, r) || Inside(r, at(math.MinInt, math.MinInt, math.MaxInt, math.MaxInt)) {
			t.Error(r)
		}
	}
}

// pair is two rectangles with what they have in common, if they touch, and how far they are apart.
type pair struct {
	a, b, common api.Rect
	touch        bool
	gap          int
}

// pairs has two rectangles in every position to each other: apart, at a corner, at a side, overlapping and inside.
func pairs() []pair {
	a, none := at(10, 10, 20, 15), api.Rect{}
	return []pair{
		{at(0, 0, 3, 2), at(2, 1, 9, 9), at(2, 1, 3, 2), false, 0}, {at(0, 0, 3, 2), at(3, 2, 4, 4), none, false, 0},
		{at(0, 0, 3, 2), at(5, 0, 6, 1), none, false, 2}, {at(0, 0, 3, 2), at(3, 1, 4, 4), none, true, 0},
		{a, a, a, false, 0}, {a, at(12, 11, 14, 12), at(12, 11, 14, 12), false, 0}, {a, at(0, 0, 30, 30), a, false, 0},
		{a, at(0, 12, 30, 13), at(10, 12, 20, 13), false, 0}, {a, at(12, 0, 13, 30), at(12, 10, 13, 15), false, 0},
		// Along a side: all of it, one cell of it, and just not.
		{a, at(20, 10, 25, 15), none, true, 0}, {a, at(20, 14, 25, 30), none, true, 0}, {a, at(20, 15, 25, 30), none, false, 0},
		{a, at(5, 10, 10, 15), none, true, 0}, {a, at(5, 0, 10, 11), none, true, 0}, {a, at(5, 0, 10, 10), none, false, 0},
		{a, at(10, 15, 20, 16), none, true, 0}, {a, at(3, 15, 11, 16), none, true, 0}, {a, at(3, 15, 10, 16), none, false, 0},
		{a, at(10, 9, 20, 10), none, true, 0}, {a, at(19, 0, 30, 10), none, true, 0}, {a, at(20, 0, 30, 10), none, false, 0},
		{a, at(19, 10, 25, 15), at(19, 10, 20, 15), false, 0}, {a, at(10, 14, 20, 16), at(10, 14, 20, 15), false, 0},
		// Apart: in one direction, or in both, of which the greater one counts.
		{a, at(21, 0, 25, 30), none, false, 1}, {a, at(0, 0, 9, 30), none, false, 1}, {a, at(0, 16, 30, 17), none, false, 1},
		{a, at(0, 0, 30, 9), none, false, 1}, {a, at(22, 15, 25, 30), none, false, 2}, {a, at(20, 17, 25, 30), none, false, 2},
		{a, at(0, 0, 5, 7), none, false, 5}, {a, at(0, 0, 8, 3), none, false, 7}, {a, at(11, 40, 12, 41), none, false, 25},
		{a, at(23, 18, 24, 19), none, false, 3}, {a, at(24, 18, 25, 19), none, false, 4}, {a, at(23, 19, 24, 20), none, false, 4},
		// At the borders of the grid.
		{at(0, 0, 1, 1), at(end-1, end-1, end, end), none, false, end - 2}, {at(0, 0, 1, 1), at(end-1, 0, end, 1), none, false, end - 2},
		{at(0, 5, 1, 6), at(3, end-1, 4, end), none, false, end - 7}, {at(0, 0, end, 1), at(0, end-1, end, end), none, false, end - 2},
		{at(0, 0, end/2, end), at(end/2, 0, end, end), none, true, 0}, {at(0, 0, end, 1), at(0, 0, 1, end), at(0, 0, 1, 1), false, 0},
		{at(0, 0, end, end), at(end-1, end-1, end, end), at(end-1, end-1, end, end), false, 0}, {at(0, 0, end, end), a, a, false, 0},
		{at(end-2, end-2, end-1, end-1), at(end-1, end-1, end, end), none, false, 0}, {at(end-2, 5, end-1, 6), at(end-1, 5, end, 6), none, true, 0},
	}
}

// P5.2: the common cells are a rectangle, or there are none.
func TestIntersect(t *testing.T) {
	for _, c := range pairs() {
		r, is := Intersect(c.a, c.b)
		checkFound(t, c, r, is, c.common)
		r, is = Intersect(c.b, c.a)
		checkFound(t, c, r, is, c.common)
	}
	for _, c := range bad() {
		for _, a := range append(sample(), bad()...) {
			r, is := Intersect(a, c)
			checkFound(t, []api.Rect{a, c}, r, is, api.Rect{})
			r, is = Intersect(c, a)
			checkFound(t, []api.Rect{c, a}, r, is, api.Rect{})
		}
	}
}

// P5.3: Gap counts the cells between two rectangles in the greater one of both directions.
func TestGap(t *testing.T) {
	for _, c := range pairs() {
		if Gap(c.a, c.b) != c.gap || Gap(c.b, c.a) != c.gap {
			t.Error(c, Gap(c.a, c.b), Gap(c.b, c.a))
		}
	}
	for _, c := range bad() {
		for _, a := range append(sample(), bad()...) {
			if Gap(a, c) != -1 || Gap(c, a) != -1 {
				t.Error(a, c, Gap(a, c), Gap(c, a))
			}
		}
	}
}

// P5.3: rectangles touch along sides, not at corners, and not if they have a cell in common.
func TestTouch(t *testing.T) {
	for _, c := range pairs() {
		if Touch(c.a, c.b) != c.touch || Touch(c.b, c.a) != c.touch {
			t.Error(c, Touch(c.a, c.b), Touch(c.b, c.a))
		}
	}
	for _, c := range bad() {
		for _, a := range append(sample(), bad()...) {
			if Touch(a, c) || Touch(c, a) {
				t.Error(a, c)
			}
		}
	}
}

// sized is a rectangle and a distance with what comes of growing or shrinking.
type sized struct {
	r    api.Rect
	d    int
	want api.Rect
}

// P5.4: a rectangle grows on all sides, and ends with the grid.
func TestGrow(t *testing.T) {
	all := at(0, 0, end, end)
	for _, c := range []sized{
		{at(1, 5, 2, 6), 3, at(0, 2, 5, 9)}, {at(10, 10, 20, 15), 0, at(10, 10, 20, 15)}, {at(10, 10, 20, 15), 1, at(9, 9, 21, 16)},
		{at(10, 20, 30, 40), 10, at(0, 10, 40, 50)}, {at(10, 20, 30, 40), 11, at(0, 9, 41, 51)}, {at(20, 10, 30, 40), 11, at(9, 0, 41, 51)},
		{at(0, 0, 1, 1), 0, at(0, 0, 1, 1)}, {at(0, 0, 1, 1), 1, at(0, 0, 2, 2)}, {at(end-1, end-1, end, end), 1, at(end-2, end-2, end, end)},
		{at(end-5, 7, end-3, 8), 3, at(end-8, 4, end, 11)}, {at(end-5, 7, end-3, 8), 4, at(end-9, 3, end, 12)},
		{at(7, end-5, 8, end-3), 3, at(4, end-8, 11, end)}, {at(7, end-5, 8, end-3), 4, at(3, end-9, 12, end)},
		{at(0, 0, 1, 1), end - 2, at(0, 0, end-1, end-1)}, {at(0, 0, 1, 1), end - 1, all}, {at(0, 0, 1, 1), end, all},
		{at(end-1, end-1, end, end), end - 2, at(1, 1, end, end)}, {at(end-1, end-1, end, end), end - 1, all},
		{at(5, 5, 6, 6), end + 1, all}, {at(5, 5, 6, 6), 1 << 32, all}, {at(5, 5, 6, 6), math.MaxInt - 6, all},
		{at(5, 5, 6, 6), math.MaxInt - 5, all}, {at(5, 5, 6, 6), math.MaxInt, all}, {at(end-1, end-1, end, end), math.MaxInt, all},
		{all, 0, all}, {all, 1, all}, {all, math.MaxInt, all}, {at(0, 5, end, 6), 2, at(0, 3, end, 8)}, {at(5, 0, 6, end), 2, at(3, 0, 8, end)},
		{at(5, 5, 6, 6), -1, api.Rect{}}, {all, -1, api.Rect{}}, {at(5, 5, 9, 9), -end, api.Rect{}}, {at(5, 5, 9, 9), math.MinInt, api.Rect{}},
		{at(5, 5, 9, 9), math.MinInt + 1, api.Rect{}},
	} {
		r, is := Grow(c.r, c.d)
		checkFound(t, c, r, is, c.want)
	}
}

// P5.4: a rectangle shrinks on all sides, also at the borders of the grid, as long as something is left.
func TestShrink(t *testing.T) {
	all, none := at(0, 0, end, end), api.Rect{}
	for _, c := range []sized{
		{at(0, 0, 5, 3), 1, at(1, 1, 4, 2)}, {at(0, 0, 5, 3), 2, none}, {at(0, 0, 3, 5), 1, at(1, 1, 2, 4)}, {at(0, 0, 3, 5), 2, none},
		{at(10, 10, 20, 15), 0, at(10, 10, 20, 15)}, {at(10, 10, 20, 15), 2, at(12, 12, 18, 13)}, {at(10, 10, 20, 15), 3, none},
		{at(10, 10, 14, 40), 1, at(11, 11, 13, 39)}, {at(10, 10, 14, 40), 2, none}, {at(10, 10, 40, 14), 2, none},
		{at(10, 10, 15, 15), 2, at(12, 12, 13, 13)}, {at(4, 4, 5, 5), 0, at(4, 4, 5, 5)}, {at(4, 4, 5, 5), 1, none}, {at(4, 4, 6, 6), 1, none},
		{at(end-3, end-3, end, end), 1, at(end-2, end-2, end-1, end-1)}, {at(end-3, end-3, end, end), 2, none},
		{at(1, 0, 3, end), 1, none}, {at(1, 0, 4, end), 1, at(2, 1, 3, end-1)}, {at(0, 5, end, 7), 1, none},
		{all, 0, all}, {all, 1, at(1, 1, end-1, end-1)}, {all, end/2 - 1, at(end/2-1, end/2-1, end/2+1, end/2+1)}, {all, end / 2, none},
		{all, end/2 + 1, none}, {all, end - 1, none}, {all, end, none}, {all, end + 1, none}, {all, 1 << 32, none}, {all, 1 << 62, none},
		{all, 1<<63 - 2, none}, {all, math.MaxInt, none}, {at(0, 0, 5, 3), math.MaxInt, none}, {at(0, 0, 5, 3), 1<<63 - 3, none},
		{at(0, 0, 5, 3), -1, none}, {all, -1, none}, {at(5, 5, 9, 9), -end, none}, {at(5, 5, 9, 9), math.MinInt, none},
		{at(5, 5, 9, 9), math.MinInt + 1, none},
	} {
		r, is := Shrink(c.r, c.d)
		checkFound(t, c, r, is, c.want)
	}
}

// P5.4: what is not valid neither grows nor shrinks into a rectangle.
func TestResizeInvalid(t *testing.T) {
	for _, c := range bad() {
		for _, d := range []int{0, 1, 2, 3, end - 1, end, end + 1, math.MaxInt, math.MaxInt - 1, -1, -2, -end, math.MinInt} {
			r, is := Grow(c, d)
			checkFound(t, []any{"Grow", c, d}, r, is, api.Rect{})
			r, is = Shrink(c, d)
			checkFound(t, []any{"Shrink", c, d}, r, is, api.Rect{})
		}
	}
}

// P5.5: the bounds are those of the valid rectangles, in whatever order they stand.
func TestBounds(t *testing.T) {
	for _, c := range []struct {
		l    []api.Rect
		want api.Rect
	}{
		{nil, api.Rect{}}, {[]api.Rect{}, api.Rect{}}, {[]api.Rect{{}}, api.Rect{}}, {bad(), api.Rect{}},
		{[]api.Rect{at(3, 4, 5, 6)}, at(3, 4, 5, 6)}, {[]api.Rect{at(3, 4, 5, 6), at(3, 4, 5, 6)}, at(3, 4, 5, 6)},
		{[]api.Rect{at(5, 1, 6, 9), at(-3, 0, 2, 2), at(2, 4, 3, 5), at(4, 4, 9, 5)}, at(2, 1, 9, 9)},
		{[]api.Rect{at(3, 4, 5, 6), {}, at(4, 5, 5, 5)}, at(3, 4, 5, 6)}, {[]api.Rect{at(0, 0, 9, 9), at(3, 4, 5, 6)}, at(0, 0, 9, 9)},
		{[]api.Rect{at(3, 9, 4, 10), at(9, 3, 10, 4)}, at(3, 3, 10, 10)}, {[]api.Rect{at(3, 3, 4, 4), at(9, 9, 10, 10)}, at(3, 3, 10, 10)},
		{[]api.Rect{at(0, 0, 1, 1), at(end-1, end-1, end, end)}, at(0, 0, end, end)}, {[]api.Rect{at(0, 0, end, end)}, at(0, 0, end, end)},
		{[]api.Rect{at(end-1, 0, end, 1), at(0, end-1, 1, end)}, at(0, 0, end, end)},
		{[]api.Rect{at(end-1, end-1, end, end)}, at(end-1, end-1, end, end)},
		{[]api.Rect{at(end-1, end-1, end, end), at(end-2, end-3, end-1, end-2)}, at(end-2, end-3, end, end)},
		{append(bad(), at(7, 7, 8, 9)), at(7, 7, 8, 9)}, {append([]api.Rect{at(7, 7, 8, 9)}, bad()...), at(7, 7, 8, 9)},
	} {
		r, is := Bounds(c.l)
		checkFound(t, c.l, r, is, c.want)
		back := slices.Clone(c.l)
		slices.Reverse(back)
		r, is = Bounds(back)
		checkFound(t, back, r, is, c.want)
	}
}

// P3: a list stays as it is, and what stands behind its length does not count.
func TestBoundsLeavesTheList(t *testing.T) {
	full := []api.Rect{at(5, 5, 6, 6), at(9, 9, 2, 2), at(7, 3, 8, 4), at(0, 0, end, end), at(1, 1, 2, 2)}
	before := slices.Clone(full)
	r, is := Bounds(full[:3])
	checkFound(t, "bounds", r, is, at(5, 3, 8, 6))
	r, is = Bounds(full[:0])
	checkFound(t, "no bounds", r, is, api.Rect{})
	if !slices.Equal(full, before) {
		t.Error(full)
	}
}
