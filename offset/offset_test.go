package offset

import (
	"fmt"
	"math"
	"slices"
	"testing"

	"greenbelt/api"
	"greenbelt/region"
)

const end = 1048576 // 2^20

// list returns the rectangles with the given numbers, four each, valid or not.
func list(n ...int) []api.Rect {
	var l []api.Rect
	for ; len(n) > 0; n = n[4:] {
		l = append(l, api.Rect{X0: n[0], Y0: n[1], X1: n[2], Y1: n[3]})
	}
	return l
}

// cell returns the region of one cell.
func cell(x, y int) []api.Rect { return list(x, y, x+1, y+1) }

// of returns the region with the cells of some rectangles.
func of(l []api.Rect) []api.Rect {
	a, e := region.Of(l)
	if e != api.OK {
		panic(fmt.Sprint("no region: ", l))
	}
	return a
}

// posts returns n rectangles beside each other, each of them wide and high as given, with free columns before each.
func posts(n, wide, high, free int) []api.Rect {
	var l []api.Rect
	for i := range n {
		x := free + i*(wide+free)
		l = append(l, list(x, 0, x+wide, high)...)
	}
	return l
}

// bars returns n rectangles over each other, each of them high and wide as given, with free rows below each.
func bars(n, high, wide, free int) []api.Rect {
	l := posts(n, high, wide, free)
	for i, r := range l {
		l[i] = api.Rect{X0: r.Y0, Y0: r.X0, X1: r.Y1, Y1: r.X1}
	}
	return l
}

// moved returns rectangles with other numbers.
func moved(l []api.Rect, dx, dy int) []api.Rect {
	l = slices.Clone(l)
	for i, r := range l {
		l[i] = api.Rect{X0: r.X0 + dx, Y0: r.Y0 + dy, X1: r.X1 + dx, Y1: r.Y1 + dy}
	}
	return l
}

// diagonal returns n squares on a diagonal, each of them three cells from the next one.
func diagonal(n int) []api.Rect {
	var l []api.Rect
	for i := range n {
		l = append(l, cell(3*i, 3*i)...)
	}
	return l
}

// frame returns a square ring around a square hole.
func frame(side, thick int) []api.Rect {
	return list(0, 0, thick, side, thick, 0, side-thick, thick, thick, side-thick, side-thick, side, side-thick, 0, side, side)
}

// regions has forms of all kinds of sets.
func regions() [][]api.Rect {
	return [][]api.Rect{
		nil, {}, cell(0, 0), cell(500, 700), cell(0, 5), cell(5, 0), cell(end-1, 5), cell(5, end-1), cell(end-1, end-1), cell(0, end-1), cell(end-1, 0),
		list(0, 0, end, end), list(0, 0, end, 1), list(0, 0, 1, end), list(0, end-1, end, end), list(1, 1, end-1, end-1), list(7, 3, 19, 20),
		// A hole, notches, and several parts that touch at a corner, along a side, or not at all.
		frame(9, 3), frame(3, 1), list(0, 0, 3, 9, 3, 0, 4, 4, 3, 5, 4, 9, 4, 0, 7, 9), list(0, 0, 1, 3, 1, 0, 3, 4), list(0, 0, 4, 4, 4, 4, 8, 8), list(0, 4, 4, 8, 4, 0, 8, 4),
		list(0, 0, 4, 4, 4, 2, 8, 6), list(0, 0, 4, 4, 0, 6, 4, 9, 5, 0, 9, 3), list(0, 0, 1, 1, end-1, end-1, end, end), diagonal(9),
		posts(200, 1, 1, 1), posts(200, 9, 9, 9), posts(200, 5, end, 2), bars(200, 5, end, 2), bars(200, 1, 1, 1),
	}
}

// notRegions has lists that are no regions, each for another reason.
func notRegions() [][]api.Rect {
	l := [][]api.Rect{
		// Slabs with equal columns, an interval in two pieces, the wrong order, slabs that overlap.
		list(0, 0, 1, 1, 1, 0, 2, 1), list(0, 0, 1, 1, 0, 1, 1, 2), list(0, 0, 1, 1, 0, 0, 1, 1), list(1, 0, 2, 1, 0, 0, 1, 1), list(0, 2, 1, 3, 0, 0, 1, 1),
		list(0, 0, 2, 2, 1, 1, 3, 3), list(0, 0, 3, 1, 1, 3, 2, 4), list(0, 0, 9, 9, 3, 3, 4, 4), list(0, 0, end, end, 0, 0, end, end),
		// Too many rectangles.
		posts(201, 9, 9, 9), bars(201, 1, 1, 1), slices.Repeat(cell(0, 0), 1000),
	}
	// Rectangles that are not valid, alone and beside others.
	for _, r := range list(0, 0, 0, 0, 3, 3, 3, 4, 3, 3, 4, 3, 4, 3, 3, 4, -1, 0, 1, 1, 0, -1, 1, 1, 0, 0, end+1, 1, 0, 0, 1, end+1, end, end, end+1, end+1,
		0, 0, math.MaxInt, math.MaxInt, math.MinInt, math.MinInt, math.MaxInt, math.MaxInt, math.MinInt, 0, 1, 1) {
		l = append(l, []api.Rect{r}, append(list(0, 0, 1, 1), r), append([]api.Rect{r}, list(9, 9, 20, 20)...))
	}
	return l
}

// notDistances has numbers that are no valid distances.
func notDistances() []int {
	return []int{-1, -2, -9, -end, end + 1, end + 2, 1 << 32, -1 << 32, 1<<32 + 1, 1 << 62, math.MinInt, math.MinInt + 1, math.MaxInt, math.MaxInt - 1}
}

// fail describes a wrong result. Long lists are shortened.
func fail(t *testing.T, what any, result ...any) {
	t.Helper()
	short := func(v any) string {
		s := fmt.Sprint(v)
		return s[:min(len(s), 300)]
	}
	t.Errorf("%s: %s", short(what), short(result))
}

// check fails the test unless a call returned the wanted region and error.
func check(t *testing.T, what any, got []api.Rect, e api.Errno, want []api.Rect, is api.Errno) {
	t.Helper()
	if e != is || !slices.Equal(got, want) {
		fail(t, what, e, got, "not", is, want)
	}
}

// checkLength fails the test unless a call returned a region of n rectangles, or ErrFull if these are too many.
func checkLength(t *testing.T, what any, got []api.Rect, e api.Errno, n int) {
	t.Helper()
	if n > 200 {
		check(t, what, got, e, nil, api.ErrFull)
	} else if e != api.OK || len(got) != n || !region.Right(got) {
		fail(t, what, e, len(got), "not", n)
	}
}

// change is a region, a distance, and what comes of them.
type change struct {
	a    []api.Rect
	d    int
	want []api.Rect
}

// P8.1: Grow has the cells of the grid that are near enough.
func TestGrow(t *testing.T) {
	all := list(0, 0, end, end)
	for _, c := range []change{
		// Single cells in the middle, at the borders and in the corners.
		{cell(2, 2), 1, list(1, 1, 4, 4)}, {cell(500, 700), 20, list(480, 680, 521, 721)}, {cell(2, 2), 0, cell(2, 2)}, {cell(2, 2), 2, list(0, 0, 5, 5)}, {cell(2, 2), 3, list(0, 0, 6, 6)},
		{cell(0, 5), 2, list(0, 3, 3, 8)}, {cell(5, 0), 2, list(3, 0, 8, 3)}, {cell(end-1, 5), 2, list(end-3, 3, end, 8)}, {cell(5, end-1), 2, list(3, end-3, 8, end)},
		{cell(0, 0), 1, list(0, 0, 2, 2)}, {cell(end-1, end-1), 1, list(end-2, end-2, end, end)}, {cell(0, end-1), 1, list(0, end-2, 2, end)}, {cell(end-1, 0), 1, list(end-2, 0, end, 2)},
		// The greatest distances.
		{cell(0, 0), end - 2, list(0, 0, end-1, end-1)}, {cell(0, 0), end - 1, all}, {cell(0, 0), end, all}, {cell(end-1, end-1), end - 2, list(1, 1, end, end)}, {cell(end-1, end-1), end - 1, all},
		{cell(5, 9), end - 8, list(0, 0, end-2, end)}, {cell(5, 9), end - 1, all}, {cell(5, 9), end, all}, {cell(end/2, end/2), end/2 - 1, list(1, 1, end, end)}, {cell(end/2, end/2), end / 2, all},
		// Nothing, and everything.
		{nil, 0, nil}, {nil, 3, nil}, {nil, end, nil}, {[]api.Rect{}, 3, nil}, {all, 0, all}, {all, 1, all}, {all, end, all}, {list(1, 1, end-1, end-1), 1, all}, {list(2, 2, end-2, end-2), 1, list(1, 1, end-1, end-1)},
		// Parts that stay apart, that come to touch, and that become one.
		{list(0, 0, 1, 1, 4, 0, 5, 1), 1, list(0, 0, 2, 2, 3, 0, 6, 2)}, {list(0, 0, 1, 1, 3, 0, 4, 1), 1, list(0, 0, 5, 2)}, {list(0, 0, 1, 1, 2, 0, 3, 1), 1, list(0, 0, 4, 2)},
		{list(0, 0, 1, 1, 0, 4, 1, 5), 1, list(0, 0, 2, 2, 0, 3, 2, 6)}, {list(0, 0, 1, 1, 0, 3, 1, 4), 1, list(0, 0, 2, 5)}, {list(0, 0, 1, 1, 4, 4, 5, 5), 1, list(0, 0, 2, 2, 3, 3, 6, 6)},
		{list(0, 0, 1, 1, 3, 3, 4, 4), 1, list(0, 0, 2, 2, 2, 2, 5, 5)}, {list(0, 0, 1, 1, 2, 2, 3, 3), 1, list(0, 0, 1, 2, 1, 0, 2, 4, 2, 1, 4, 4)},
		{list(0, 0, 1, 1, 3, 2, 4, 3), 1, list(0, 0, 2, 2, 2, 1, 5, 4)}, {list(0, 0, 1, 1, 3, 2, 4, 3), 2, list(0, 0, 1, 3, 1, 0, 6, 5)},
		// Parts that touch at a corner, or along a side.
		{list(1, 1, 2, 2, 2, 2, 3, 3), 1, list(0, 0, 1, 3, 1, 0, 3, 4, 3, 1, 4, 4)}, {list(1, 2, 2, 3, 2, 1, 3, 2), 1, list(0, 1, 1, 4, 1, 0, 3, 4, 3, 0, 4, 3)}, {list(1, 1, 2, 3, 2, 2, 3, 4), 1, list(0, 0, 1, 4, 1, 0, 3, 5, 3, 1, 4, 5)},
		// Holes that close, or shrink; notches that fill, or do not.
		{frame(3, 1), 1, list(0, 0, 4, 4)}, {moved(frame(9, 3), 5, 5), 1, list(4, 4, 9, 15, 9, 4, 10, 9, 9, 10, 10, 15, 10, 4, 15, 15)}, {moved(frame(9, 3), 5, 5), 2, list(3, 3, 16, 16)},
		{list(1, 1, 2, 4, 2, 1, 3, 2, 2, 3, 3, 4), 1, list(0, 0, 4, 5)}, {list(1, 1, 2, 5, 2, 1, 5, 2, 2, 4, 5, 5), 1, list(0, 0, 6, 6)}, {list(1, 1, 2, 6, 2, 1, 5, 2, 2, 5, 5, 6), 1, list(0, 0, 3, 7, 3, 0, 6, 3, 3, 4, 6, 7)},
	} {
		got, e := Grow(c.a, c.d)
		check(t, []any{"Grow", c.a, c.d}, got, e, c.want, api.OK)
	}
}

// P8.1: Shrink has the cells around which everything is in the region.
func TestShrink(t *testing.T) {
	all, five := list(0, 0, end, end), list(0, 0, 5, 5)
	notch := list(0, 0, 3, 9, 3, 0, 4, 4, 3, 5, 4, 9, 4, 0, 7, 9)
	for _, c := range []change{
		// Squares and other rectangles: the inner ones, down to a single cell or row.
		{five, 0, five}, {five, 1, list(1, 1, 4, 4)}, {five, 2, list(2, 2, 3, 3)}, {five, 3, nil}, {five, end, nil}, {list(0, 0, 4, 4), 1, list(1, 1, 3, 3)}, {list(0, 0, 4, 4), 2, nil},
		{list(0, 0, 4, 9), 1, list(1, 1, 3, 8)}, {list(0, 0, 4, 9), 2, nil}, {list(0, 0, 9, 4), 1, list(1, 1, 8, 3)}, {list(0, 0, 9, 4), 2, nil}, {list(7, 3, 12, 20), 2, list(9, 5, 10, 18)}, {list(7, 3, 30, 8), 2, list(9, 5, 28, 6)},
		{cell(9, 9), 0, cell(9, 9)}, {cell(9, 9), 1, nil}, {cell(0, 0), 1, nil}, {cell(end-1, end-1), 1, nil}, {cell(end-1, end-1), 0, cell(end-1, end-1)}, {cell(9, 9), end, nil},
		// The grid ends at its borders, also for what reaches them.
		{all, 0, all}, {all, 1, list(1, 1, end-1, end-1)}, {all, end/2 - 1, list(end/2-1, end/2-1, end/2+1, end/2+1)}, {all, end / 2, nil}, {all, end - 1, nil}, {all, end, nil},
		{list(0, 0, end, 9), 4, list(4, 4, end-4, 5)}, {list(0, 0, 9, end), 4, list(4, 4, 5, end-4)}, {list(end-5, end-5, end, end), 2, cell(end-3, end-3)}, {list(0, end-5, 5, end), 2, cell(2, end-3)}, {list(end-5, 0, end, 5), 2, cell(end-3, 2)},
		{list(0, 0, end-1, end), end/2 - 1, list(end/2-1, end/2-1, end/2, end/2+1)}, {list(0, 1, end, end), end/2 - 1, list(end/2-1, end/2, end/2+1, end/2+1)},
		// Nothing.
		{nil, 0, nil}, {nil, 1, nil}, {nil, end, nil}, {[]api.Rect{}, 0, nil}, {[]api.Rect{}, end, nil},
		// Steps, notches and holes.
		{list(0, 0, 1, 3, 1, 0, 3, 4), 1, cell(1, 1)}, {list(0, 0, 2, 4, 2, 0, 4, 5), 1, list(1, 1, 3, 3)}, {list(0, 0, 3, 3, 3, 0, 6, 5), 1, list(1, 1, 4, 2, 4, 1, 5, 4)}, {list(0, 0, 3, 5, 3, 0, 6, 3), 1, list(1, 1, 2, 4, 2, 1, 5, 2)},
		{list(0, 2, 3, 5, 3, 0, 6, 5), 1, list(1, 3, 4, 4, 4, 1, 5, 4)}, {list(0, 0, 3, 5, 3, 2, 6, 7), 1, list(1, 1, 2, 4, 2, 3, 4, 4, 4, 3, 5, 6)},
		{notch, 1, list(1, 1, 2, 8, 2, 1, 5, 3, 2, 6, 5, 8, 5, 1, 6, 8)}, {notch, 2, nil}, {notch, 3, nil}, {frame(9, 3), 1, list(1, 1, 2, 8, 2, 1, 7, 2, 2, 7, 7, 8, 7, 1, 8, 8)}, {frame(9, 3), 2, nil}, {frame(3, 1), 1, nil},
		{frame(9, 4), 1, list(1, 1, 3, 8, 3, 1, 6, 3, 3, 6, 6, 8, 6, 1, 8, 8)}, {frame(11, 5), 2, list(2, 2, 3, 9, 3, 2, 8, 3, 3, 8, 8, 9, 8, 2, 9, 9)}, {frame(end, 2), 1, nil}, {frame(end, 3), 1, list(1, 1, 2, end-1, 2, 1, end-2, 2, 2, end-2, end-2, end-1, end-2, 1, end-1, end-1)},
		// Several parts, of which some vanish; parts that touch at a corner, or along a side, or only come near.
		{list(0, 0, 3, 3, 4, 0, 7, 3), 1, list(1, 1, 2, 2, 5, 1, 6, 2)}, {list(0, 0, 3, 3, 5, 0, 7, 9), 1, cell(1, 1)}, {list(0, 0, 2, 9, 5, 0, 8, 3), 1, cell(6, 1)}, {list(0, 0, 5, 5, 9, 0, 12, 3, 20, 0, 29, 9), 2, list(2, 2, 3, 3, 22, 2, 27, 7)},
		{list(0, 0, 3, 3, 0, 4, 3, 7), 1, list(1, 1, 2, 2, 1, 5, 2, 6)}, {list(0, 0, 3, 2, 0, 4, 3, 7), 1, cell(1, 5)}, {list(0, 0, 3, 3, 0, 4, 3, 6), 1, cell(1, 1)}, {list(0, 0, 2, 3, 2, 0, 3, 3, 2, 5, 3, 9), 1, cell(1, 1)},
		{list(0, 0, 3, 3, 3, 3, 6, 6), 1, list(1, 1, 2, 2, 4, 4, 5, 5)}, {list(0, 3, 3, 6, 3, 0, 6, 3), 1, list(1, 4, 2, 5, 4, 1, 5, 2)}, {list(0, 0, 3, 5, 3, 3, 6, 8), 1, list(1, 1, 2, 4, 4, 4, 5, 7)}, {list(0, 0, 3, 4, 3, 3, 6, 8), 1, list(1, 1, 2, 3, 4, 4, 5, 7)},
		// Two slabs between which the result has no cells, and slabs that become one.
		{list(0, 0, 3, 3, 3, 1, 4, 2, 4, 0, 7, 3), 1, list(1, 1, 2, 2, 5, 1, 6, 2)}, {list(0, 0, 4, 9, 4, 0, 5, 9, 4, 10, 5, 11, 5, 0, 9, 9), 1, list(1, 1, 8, 8)}, {list(0, 0, 4, 9, 4, 0, 5, 9, 4, 11, 5, 15), 1, list(1, 1, 4, 8)},
	} {
		got, e := Shrink(c.a, c.d)
		check(t, []any{"Shrink", c.a, c.d}, got, e, c.want, api.OK)
	}
}

// P8.1: the distance 0 changes nothing.
func TestStay(t *testing.T) {
	for _, a := range regions() {
		got, e := Grow(a, 0)
		check(t, []any{"Grow", a}, got, e, a, api.OK)
		got, e = Shrink(a, 0)
		check(t, []any{"Shrink", a}, got, e, a, api.OK)
	}
}

// P8.1: lists that are no regions, and numbers that are no distances, are errors, also where the result would have too
// many rectangles.
func TestOffsetInvalid(t *testing.T) {
	// Their results have too many rectangles, if the distance is right.
	tooMany := [][]api.Rect{diagonal(101), combs(67, 67)}
	for i, f := range []func(a []api.Rect, d int) ([]api.Rect, api.Errno){Grow, Shrink} {
		for _, wrong := range notRegions() {
			for _, d := range append(notDistances(), 0, 1, 2, end-1, end) {
				got, e := f(wrong, d)
				check(t, []any{i, wrong, d}, got, e, nil, api.ErrArg)
			}
		}
		for _, a := range append(regions(), tooMany...) {
			for _, d := range notDistances() {
				got, e := f(a, d)
				check(t, []any{i, a, d}, got, e, nil, api.ErrArg)
			}
		}
		got, e := f(append(slices.Clone(tooMany[i]), cell(0, 0)...), 2-i)
		check(t, []any{i, "not in order"}, got, e, nil, api.ErrArg)
	}
}

// combs returns two slabs, of which the first one has n and the second one m bars of 10 rows, with two free rows between
// them; those of the second one lie one row higher.
func combs(n, m int) []api.Rect {
	return append(bars(n, 10, 30, 2), moved(bars(m, 10, 30, 2), 30, 1)...)
}

// P8.1: a grown region may have MaxRects rectangles, and not one more.
func TestGrowLimits(t *testing.T) {
	far := cell(end-9, 9)
	for _, c := range []struct {
		a []api.Rect
		d int
		n int // of rectangles
	}{
		{posts(200, 1, 1, 9), 1, 200}, {posts(200, 1, 1, 9), 4, 200}, {posts(200, 1, 1, 9), 5, 1}, {bars(200, 1, 1, 9), 4, 200}, {bars(200, 1, 1, 9), 5, 1}, {posts(200, 9, 9, 9), end, 1},
		// Squares that overlap have one slab more for each pair.
		{diagonal(200), 0, 200}, {diagonal(200), 1, 200}, {diagonal(100), 2, 199}, {append(diagonal(100), far...), 2, 200}, {append(diagonal(100), append(far, moved(far, 0, 99)...)...), 2, 201}, {diagonal(101), 2, 201}, {diagonal(200), 2, 399},
	} {
		got, e := Grow(c.a, c.d)
		checkLength(t, []any{"Grow", len(c.a), c.d}, got, e, c.n)
	}
}

// P8.1: a shrunk region may have MaxRects rectangles, and not one more, whatever is found on the way.
func TestShrinkLimits(t *testing.T) {
	// Four slabs that have 50 and 49 bars in turn. Where two of them meet, 98 spans of ten rows are in both.
	turns := slices.Concat(bars(50, 40, 6, 20), moved(bars(49, 40, 4, 20), 6, 30), moved(bars(50, 40, 4, 20), 10, 0), moved(bars(49, 40, 6, 20), 14, 30))
	for _, c := range []struct {
		a []api.Rect
		d int
		n int // of rectangles
	}{
		{posts(200, 3, 3, 1), 1, 200}, {posts(200, 3, 3, 1), 2, 0}, {bars(200, 3, 3, 1), 1, 200}, {bars(200, 3, 3, 1), 2, 0}, {posts(200, 9, end, 1), 4, 200}, {bars(200, 9, end, 1), 4, 200},
		// Each pair of bars that meet has a slab between them.
		{combs(67, 66), 1, 199}, {combs(66, 67), 1, 199}, {append(combs(67, 66), moved(frame(5, 2), 99, 0)...), 1, 199}, {append(combs(67, 66), list(99, 0, 102, 3)...), 1, 200}, {append(combs(67, 66), list(99, 0, 102, 3, 99, 5, 102, 8)...), 1, 201},
		{combs(67, 67), 1, 201}, {combs(100, 100), 1, 300}, {combs(100, 100), 4, 300}, {combs(100, 100), 5, 0}, {combs(67, 67), 0, 134}, {combs(100, 100), 0, 200},
		{turns, 0, 198}, {turns, 1, 50 + 98 + 49 + 98 + 50 + 98 + 49}, {turns, 2, 50 + 98 + 49}, {turns, 3, 98}, {turns, 4, 98}, {turns, 5, 0}, {turns[:99], 1, 50 + 98 + 49},
	} {
		got, e := Shrink(c.a, c.d)
		checkLength(t, []any{"Shrink", len(c.a), c.d}, got, e, c.n)
	}
}

// P8.2, P8.6: the gap is the number of columns or rows between the nearest cells, in both orders.
func TestGap(t *testing.T) {
	for _, c := range []struct {
		a, b []api.Rect
		gap  int
	}{
		// The same cells, some common ones, and one in the other.
		{cell(5, 5), cell(5, 5), 0}, {list(0, 0, 3, 3), list(2, 2, 5, 5), 0}, {list(0, 0, 9, 9), cell(4, 4), 0}, {list(0, 0, end, end), cell(end-1, 0), 0}, {list(0, 4, 9, 5), list(4, 0, 5, 9), 0}, {list(0, 0, end, end), list(0, 0, end, end), 0},
		// Along a side, and at a corner only.
		{cell(5, 5), cell(6, 5), 0}, {cell(5, 5), cell(5, 6), 0}, {cell(5, 5), cell(6, 6), 0}, {cell(5, 5), cell(6, 4), 0}, {list(0, 0, 3, 3), list(3, 2, 5, 9), 0}, {list(0, 0, 3, 3), list(3, 3, 5, 9), 0}, {list(0, 0, 3, 3), list(1, 3, 2, 4), 0},
		// Columns, rows, or both between them.
		{cell(5, 5), cell(7, 5), 1}, {cell(5, 5), cell(5, 7), 1}, {cell(5, 5), cell(7, 7), 1}, {cell(5, 5), cell(7, 3), 1}, {cell(5, 5), cell(6, 7), 1}, {cell(5, 5), cell(7, 4), 1}, {cell(5, 5), cell(8, 5), 2}, {cell(5, 5), cell(8, 7), 2}, {cell(5, 5), cell(6, 9), 3},
		{list(0, 0, 3, 3), list(13, 0, 14, 9), 10}, {list(0, 0, 3, 3), list(13, 33, 14, 39), 30}, {list(0, 0, 9, 2), list(0, 5, 9, 6), 3}, {cell(0, 0), cell(2, 9), 8}, {cell(0, 0), cell(9, 2), 8},
		// The greatest ones that the grid admits.
		{cell(0, 0), cell(end-1, 0), end - 2}, {cell(0, 0), cell(0, end-1), end - 2}, {cell(0, 0), cell(end-1, end-1), end - 2}, {cell(end-1, 0), cell(0, end-1), end - 2}, {list(0, 0, 1, end), list(end-1, 0, end, end), end - 2}, {list(0, 0, end, 1), list(0, end-1, end, end), end - 2},
		{cell(1, 0), cell(end-1, 0), end - 3}, {cell(0, 0), cell(end-2, end-2), end - 3}, {list(0, 0, 2, end), list(end-1, 0, end, end), end - 3}, {list(0, 0, end, 2), cell(7, end-1), end - 3},
		// The nearest rectangles decide, wherever they stand.
		{list(0, 0, 1, 1, 20, 0, 21, 1), cell(17, 0), 2}, {list(0, 0, 1, 1, 20, 0, 21, 1), cell(4, 0), 3}, {list(0, 0, 1, 1, 0, 9, 1, 10, 20, 0, 21, 1), cell(1, 7), 1}, {list(0, 0, 1, 1, 20, 20, 21, 21), list(9, 9, 10, 10, 15, 0, 16, 1, 40, 17, 41, 18), 8},
		{frame(9, 3), cell(3, 3), 0}, {frame(9, 3), cell(4, 4), 1}, {frame(9, 2), cell(4, 4), 2}, {frame(9, 1), cell(4, 4), 3}, {frame(9, 1), list(3, 3, 5, 6), 2}, {frame(19, 1), moved(frame(9, 2), 5, 4), 3}, {diagonal(9), moved(diagonal(9), 3, 0), 2}, {diagonal(9), moved(diagonal(9), 2, 1), 1}, {diagonal(9), moved(diagonal(9), 0, 1), 0},
		{posts(200, 1, 1, 1), cell(end-1, 0), end - 2 - 399}, {posts(200, 1, 1, 1), cell(0, 9), 8}, {bars(200, 1, 1, 1), cell(9, 399), 8}, {posts(200, 1, 1, 1), moved(posts(200, 1, 1, 1), 0, 3), 2}, {posts(200, 3, 3, 2), moved(posts(200, 3, 3, 2), 1000, 0), 2}, {posts(200, 1, 1, 3), moved(posts(200, 1, 1, 3), 2, 0), 1},
	} {
		for _, p := range [][2][]api.Rect{{c.a, c.b}, {c.b, c.a}} {
			if gap, is := Gap(p[0], p[1]); gap != c.gap || !is {
				fail(t, []any{"Gap", p[0], p[1]}, gap, is, "not", c.gap)
			}
		}
	}
}

// P8.2: what has no cells, or is no region, has no gap to anything.
func TestNoGap(t *testing.T) {
	nothing := append(notRegions(), nil, []api.Rect{})
	for _, a := range nothing {
		for _, b := range append(regions(), nothing...) {
			for _, p := range [][2][]api.Rect{{a, b}, {b, a}} {
				if gap, is := Gap(p[0], p[1]); gap != 0 || is {
					fail(t, []any{"Gap", p[0], p[1]}, gap, is)
				}
			}
		}
	}
}

// P8.2: Within tells, in ascending order, which regions are near enough.
func TestWithin(t *testing.T) {
	l := [][]api.Rect{
		0: cell(9, 9), 1: cell(2, 0), 2: nil, 3: cell(0, 0), 4: list(0, 0, 0, 0), 5: cell(end-1, 0), 6: list(1, 1, 2, 2, 30, 0, 31, 1), 7: cell(9, 9), 8: {},
		9: list(0, 0, 1, 1, 1, 0, 2, 1), 10: list(0, 0, end, end), 11: posts(201, 1, 1, 1), 12: cell(0, 3), 13: list(0, 20, 1, 21, 20, 20, 21, 21), 14: list(-1, 0, 1, 1),
	}
	all := []int{0, 1, 3, 5, 6, 7, 10, 12, 13}
	for _, c := range []struct {
		a    []api.Rect
		d    int
		want []int
	}{
		{cell(0, 0), 0, []int{3, 6, 10}}, {cell(0, 0), 1, []int{1, 3, 6, 10}}, {cell(0, 0), 2, []int{1, 3, 6, 10, 12}}, {cell(0, 0), 7, []int{1, 3, 6, 10, 12}}, {cell(0, 0), 8, []int{0, 1, 3, 6, 7, 10, 12}},
		{cell(0, 0), 18, []int{0, 1, 3, 6, 7, 10, 12}}, {cell(0, 0), 19, []int{0, 1, 3, 6, 7, 10, 12, 13}}, {cell(0, 0), end - 3, []int{0, 1, 3, 6, 7, 10, 12, 13}}, {cell(0, 0), end - 2, all}, {cell(0, 0), end, all}, {cell(0, 0), end + 1, all},
		{cell(0, 0), 1 << 32, all}, {cell(0, 0), math.MaxInt, all}, {cell(0, 0), -1, nil}, {cell(0, 0), -end, nil}, {cell(0, 0), math.MinInt, nil}, {cell(0, 0), -1 << 32, nil},
		{list(0, 0, end, end), 0, all}, {list(0, 0, end, end), -1, nil}, {cell(17, 17), 1, []int{10}}, {cell(17, 17), 2, []int{10, 13}}, {list(8, 8, 9, 9, 10, 10, 11, 11), 0, []int{0, 7, 10}},
		{cell(end-1, end-1), 9, []int{10}}, {cell(end-1, end-1), end - 2, []int{0, 1, 3, 5, 6, 7, 10, 12, 13}}, {cell(end-1, end-1), end - 3, []int{0, 6, 7, 10, 13}},
		{nil, 99, nil}, {[]api.Rect{}, end, nil}, {list(0, 0, 0, 0), end, nil}, {list(0, 0, 1, 1, 1, 0, 2, 1), end, nil}, {posts(201, 1, 1, 1), math.MaxInt, nil},
	} {
		if got := Within(c.a, l, c.d); !slices.Equal(got, c.want) {
			fail(t, []any{"Within", c.a, c.d}, got, "not", c.want)
		}
	}
	for _, none := range [][][]api.Rect{nil, {}, {nil}, {{}, nil, list(0, 0, 0, 0)}} {
		if got := Within(cell(0, 0), none, end); len(got) != 0 {
			fail(t, none, got)
		}
	}
	many := slices.Repeat([][]api.Rect{cell(0, 0), nil, cell(0, 9)}, 7000)
	if got := Within(cell(0, 0), many, 7); len(got) != 7000 || got[0] != 0 || got[6999] != 3*6999 {
		fail(t, "many", got)
	}
}

// P8.2: Within says what Gap says.
func TestWithinGap(t *testing.T) {
	l := append(regions(), notRegions()...)
	for _, a := range l {
		for _, d := range []int{-1, 0, 1, 2, 10, 1000, end - 3, end - 2, end, math.MaxInt} {
			var want []int
			for i, b := range l {
				if gap, is := Gap(a, b); is && gap <= d {
					want = append(want, i)
				}
			}
			if got := Within(a, l, d); !slices.Equal(got, want) {
				fail(t, []any{"Within", a, d}, got, "not", want)
			}
		}
	}
}
