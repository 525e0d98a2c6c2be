package solid

import (
	"fmt"
	"math"
	"slices"
	"testing"

	"greenbelt/api"
)

const (
	end = 1048576 // 2^20
	sky = 4096    // 2^12
)

// list returns the rectangles with the given numbers, four each, valid or not.
func list(n ...int) []api.Rect {
	var l []api.Rect
	for ; len(n) > 0; n = n[4:] {
		l = append(l, api.Rect{X0: n[0], Y0: n[1], X1: n[2], Y1: n[3]})
	}
	return l
}

// boxes returns the boxes with the given numbers, six each, valid or not: the base and the heights.
func boxes(n ...int) []api.Box {
	var l []api.Box
	for ; len(n) > 0; n = n[6:] {
		l = append(l, api.Box{Base: list(n[:4]...)[0], Z0: n[4], Z1: n[5]})
	}
	return l
}

// slab returns a slab over the rectangles with the given numbers, four each.
func slab(z0, z1 int, n ...int) api.Slab { return over(z0, z1, list(n...)) }

// over returns a slab over an area.
func over(z0, z1 int, area []api.Rect) api.Slab { return api.Slab{Z0: z0, Z1: z1, Area: area} }

// pile returns a list of slabs, a solid or not.
func pile(l ...api.Slab) []api.Slab { return l }

// cube returns the solid of one cube.
func cube(x, y, z int) []api.Slab { return pile(slab(z, z+1, x, y, x+1, y+1)) }

// posts returns n rectangles beside each other that are one cell wide and high cells high, with a free cell before each.
func posts(n, high int) []api.Rect {
	var l []api.Rect
	for i := range n {
		l = append(l, list(2*i+1, 0, 2*i+2, high)...)
	}
	return l
}

// bars returns n rectangles over each other that are one cell high and wide cells wide, with a free cell below each.
func bars(n, wide int) []api.Rect {
	l := posts(n, wide)
	for i, r := range l {
		l[i] = api.Rect{X0: r.Y0, Y0: r.X0, X1: r.Y1, Y1: r.X1}
	}
	return l
}

// ring has a hole in the middle.
func ring() []api.Rect { return list(0, 0, 1, 3, 1, 0, 2, 1, 1, 2, 2, 3, 2, 0, 3, 3) }

// floors returns n slabs with the same area, each of them as thick as given, with free heights below each.
func floors(n, thick, free int, area []api.Rect) []api.Slab {
	var s []api.Slab
	for i := range n {
		z := free + i*(thick+free)
		s = append(s, over(z, z+thick, slices.Clone(area)))
	}
	return s
}

// steps returns n slabs on each other, each of them as thick as given, and one cell wider than the next one.
func steps(n, thick int) []api.Slab {
	s := floors(n, thick, 0, list(0, 0, 1, 1))
	for i := range s {
		s[i].Area[0].X1 = n - i
	}
	return s
}

// largest returns the solid of 80 slabs with 200 rectangles each.
func largest() []api.Slab {
	s := floors(80, 1, 0, posts(200, 1))
	for i := range s {
		s[i].Area = posts(200, 1+i%2)
	}
	return s
}

// raised returns slabs at other heights.
func raised(s []api.Slab, dz int) []api.Slab {
	s = slices.Clone(s)
	for i := range s {
		s[i].Z0 += dz
		s[i].Z1 += dz
	}
	return s
}

// copied returns a copy of a list that shares no memory with it.
func copied(s []api.Slab) []api.Slab {
	s = slices.Clone(s)
	for i := range s {
		s[i].Area = slices.Clone(s[i].Area)
	}
	return s
}

// equal compares two lists of slabs without the package's help.
func equal(a, b []api.Slab) bool {
	return slices.EqualFunc(a, b, func(l, m api.Slab) bool {
		return l.Z0 == m.Z0 && l.Z1 == m.Z1 && slices.Equal(l.Area, m.Area)
	})
}

// solids has forms of all kinds of sets.
func solids() [][]api.Slab {
	l := [][]api.Slab{
		nil, {}, pile(slab(3, 9, 5, 7, 8, 19)), pile(slab(0, sky, 0, 0, end, end)), pile(slab(0, 1, 0, 0, end, end)), pile(slab(sky-1, sky, 0, 0, end, end)),
		pile(slab(0, sky, 5, 5, 6, 6)), pile(slab(1, sky-1, 1, 1, end-1, end-1)), pile(slab(0, sky, 0, 0, 1, 1, end-1, end-1, end, end)),
		// Layers that touch, and layers that do not, with equal cross-sections and with others.
		pile(slab(0, 3, 0, 0, 2, 2), slab(3, 5, 0, 0, 1, 2)), pile(slab(0, 3, 0, 0, 1, 2), slab(3, 5, 0, 0, 2, 2)), pile(slab(0, 3, 0, 0, 2, 2), slab(4, 5, 0, 0, 2, 2)),
		pile(slab(0, 3, 0, 0, 2, 2), slab(4, 5, 7, 7, 9, 9)), pile(slab(2, 3, 0, 0, 2, 2), slab(3, 4, 7, 7, 9, 9), slab(4, 5, 0, 0, 2, 2)),
		pile(slab(0, 1, 0, 0, 1, 1), slab(sky-1, sky, 0, 0, 1, 1)), pile(slab(0, 1, 0, 0, end, end), slab(1, sky-1, 0, 0, end, 1), slab(sky-1, sky, 0, 0, end, end)),
		// Holes, a closed room, several parts, and cubes that meet at an edge or a corner only.
		pile(over(0, 3, ring())), pile(slab(0, 1, 0, 0, 3, 3), over(1, 2, ring()), slab(2, 3, 0, 0, 3, 3)), pile(slab(0, 1, 0, 0, 1, 1, 2, 0, 3, 1), slab(1, 2, 0, 0, 3, 1)),
		pile(slab(5, 6, 0, 0, 1, 1, 0, 2, 1, 3, 4, 4, 5, 5)), pile(slab(0, 1, 0, 0, 1, 1), slab(1, 2, 1, 0, 2, 1)), pile(slab(0, 1, 0, 0, 1, 1), slab(1, 2, 1, 1, 2, 2)),
		pile(slab(0, 1, 0, 0, 1, 1, 1, 1, 2, 2), slab(1, 2, 0, 1, 1, 2, 1, 0, 2, 1)),
		// As many slabs, and as many rectangles, as there may be.
		steps(80, 1), steps(80, 51), floors(80, 1, 1, ring()), raised(floors(80, 1, 50, list(0, 0, end, end)), 16), pile(over(7, 9, posts(200, end))), pile(over(0, 1, bars(200, end))), largest(),
	}
	for _, x := range []int{0, 500, end - 1} {
		for _, y := range []int{0, 700, end - 1} {
			for _, z := range []int{0, 90, sky - 1} {
				l = append(l, cube(x, y, z))
			}
		}
	}
	return l
}

// notRanges has pairs of numbers that are no heights of cubes, each for another reason.
func notRanges() [][2]int {
	return [][2]int{
		{0, 0}, {3, 3}, {sky, sky}, {-1, -1}, {5, 3}, {1, 0}, {0, -1}, {-1, 0}, {-1, 1}, {-5, -3}, {-1, sky}, {0, sky + 1}, {sky - 1, sky + 1}, {sky, sky + 1}, {sky + 1, sky + 2}, {sky, 0}, {sky + 1, 0},
		{1 << 32, 1<<32 + 1}, {0, 1 << 32}, {0, 1<<32 + 1}, {-1 << 32, 1}, {0, math.MaxInt}, {math.MinInt, 1}, {math.MinInt, math.MaxInt}, {math.MaxInt, math.MinInt}, {math.MaxInt, math.MaxInt}, {math.MinInt, math.MinInt},
		{math.MaxInt, 1}, {0, math.MinInt}, {math.MinInt, math.MinInt + 1}, {math.MaxInt - 1, math.MaxInt}, {1 << 63 >> 1, 1},
	}
}

// notRects has rectangles that are not valid, each for another reason.
func notRects() []api.Rect {
	return list(0, 0, 0, 0, 3, 3, 3, 4, 3, 3, 4, 3, 4, 3, 3, 4, 3, 4, 4, 3, -1, 0, 1, 1, 0, -1, 1, 1, 0, 0, end+1, 1, 0, 0, 1, end+1, end, 0, end+1, 1, 0, end, 1, end+1, end, end, end, end,
		-2, -2, -1, -1, 0, 0, math.MaxInt, math.MaxInt, 0, 0, math.MinInt, 1, math.MinInt, math.MinInt, math.MaxInt, math.MaxInt, 0, math.MinInt, 1, 1, math.MaxInt, 0, math.MinInt, 1, 1<<32, 0, 1<<32+1, 1)
}

// notRegions has lists of rectangles that are no areas of slabs.
func notRegions() [][]api.Rect {
	l := [][]api.Rect{
		nil, {}, list(0, 0, 1, 1, 1, 0, 2, 1), list(0, 0, 1, 1, 0, 1, 1, 2), list(0, 0, 1, 1, 0, 0, 1, 1), list(1, 0, 2, 1, 0, 0, 1, 2), list(0, 2, 1, 3, 0, 0, 1, 1), list(0, 0, 2, 2, 1, 1, 3, 3),
		posts(201, 1), bars(201, 9), posts(1000, 1),
	}
	for _, r := range notRects() {
		l = append(l, []api.Rect{r}, append(list(0, 0, 1, 1), r))
	}
	return l
}

// notSolids has lists that are no forms of sets of cubes, each for another reason, and forms that have too many slabs.
func notSolids() [][]api.Slab {
	l := [][]api.Slab{
		// Layers in two pieces.
		pile(slab(0, 3, 0, 0, 2, 2), slab(3, 5, 0, 0, 2, 2)), pile(over(0, 3, ring()), over(3, 4, ring())), pile(slab(0, sky-1, 0, 0, end, end), slab(sky-1, sky, 0, 0, end, end)),
		pile(slab(0, 3, 0, 0, 2, 2), slab(3, 5, 0, 0, 1, 2), slab(5, 6, 0, 0, 1, 2)), pile(slab(0, 3, 0, 0, 2, 2), slab(3, 5, 0, 0, 2, 2), slab(5, 6, 0, 0, 1, 2)),
		pile(slab(0, 1, 0, 0, 1, 1), slab(2, 3, 0, 0, 1, 1), slab(3, 4, 0, 0, 1, 1)), append(steps(79, 1), slab(79, 80, 0, 0, 1, 1)),
		// An order that is not ascending.
		pile(slab(3, 5, 0, 0, 1, 2), slab(0, 3, 0, 0, 2, 2)), pile(slab(4, 5, 0, 0, 2, 2), slab(0, 3, 0, 0, 2, 2)), pile(slab(0, 1, 0, 0, 1, 1), slab(4, 5, 0, 0, 1, 1), slab(2, 3, 0, 0, 1, 1)),
		pile(slab(5, 6, 0, 0, 1, 1), slab(0, 1, 0, 0, 1, 1), slab(2, 3, 0, 0, 1, 1)),
		// Slabs that overlap.
		pile(slab(0, 3, 0, 0, 2, 2), slab(2, 5, 0, 0, 1, 2)), pile(slab(0, 3, 0, 0, 2, 2), slab(2, 5, 7, 7, 9, 9)), pile(slab(0, 3, 0, 0, 2, 2), slab(0, 3, 0, 0, 2, 2)), pile(slab(0, 3, 0, 0, 2, 2), slab(0, 3, 0, 0, 1, 2)),
		pile(slab(0, 9, 0, 0, 2, 2), slab(3, 4, 0, 0, 1, 1)), pile(slab(0, 9, 0, 0, 2, 2), slab(0, 4, 7, 7, 9, 9)), pile(slab(0, 9, 0, 0, 2, 2), slab(4, 9, 7, 7, 9, 9)), pile(slab(3, 4, 0, 0, 1, 1), slab(0, 9, 0, 0, 2, 2)),
		pile(slab(0, 2, 0, 0, 2, 2), slab(3, 9, 0, 0, 1, 1), slab(8, 10, 0, 0, 3, 3)), pile(slab(0, 4, 0, 0, 2, 2), slab(3, 9, 0, 0, 1, 1), slab(9, 10, 0, 0, 3, 3)),
		// Too many slabs.
		steps(81, 1), floors(81, 1, 1, ring()), append(largest(), slab(90, 91, 0, 0, 1, 1)), floors(1000, 1, 1, list(0, 0, 1, 1)), slices.Repeat(cube(0, 0, 0), 300),
	}
	below, above := slab(0, 1, 5, 5, 6, 6), slab(4, 6, 5, 5, 6, 6)
	for _, area := range notRegions() {
		wrong := over(2, 3, area)
		l = append(l, pile(wrong), pile(below, wrong), pile(wrong, above), pile(below, wrong, above), pile(over(1, 4, area), above))
	}
	for _, z := range notRanges() {
		wrong := slab(z[0], z[1], 0, 0, 1, 1)
		l = append(l, pile(wrong), pile(below, wrong), pile(wrong, above), pile(below, wrong, above), pile(over(z[0], z[1], nil)))
	}
	return l
}

// fail describes a wrong result. Long lists are shortened.
func fail(t *testing.T, what any, result ...any) {
	t.Helper()
	short := func(v any) string {
		s := fmt.Sprint(v)
		return s[:min(len(s), 300)]
	}
	t.Errorf("%s: %s", short(what), short(result))
}

// check fails the test unless a call returned the wanted solid and error.
func check(t *testing.T, what any, got []api.Slab, e api.Errno, want []api.Slab, is api.Errno) {
	t.Helper()
	if e != is || !equal(got, want) {
		fail(t, what, e, got, "not", is, want)
	}
}

// checkSize fails the test unless a call returned a solid of n slabs, whose areas have up to m rectangles, or ErrFull if
// one of these numbers is too great.
func checkSize(t *testing.T, what any, got []api.Slab, e api.Errno, n, m int) {
	t.Helper()
	if n > 80 || m > 200 {
		check(t, what, got, e, nil, api.ErrFull)
		return
	}
	most := 0
	for _, l := range got {
		most = max(most, len(l.Area))
	}
	if e != api.OK || len(got) != n || most != m || !Right(got) {
		fail(t, what, e, len(got), most, "not", n, m)
	}
}

// P9.1: Of finds the layers and their cross-sections, however the cubes are divided into boxes.
func TestOf(t *testing.T) {
	two := pile(slab(0, 3, 0, 0, 2, 2), slab(3, 5, 0, 0, 1, 2))
	for _, c := range []struct {
		l    []api.Box
		want []api.Slab
	}{
		{nil, nil}, {boxes(), nil}, {[]api.Box{}, nil}, {boxes(3, 4, 5, 6, 7, 8), pile(slab(7, 8, 3, 4, 5, 6))}, {boxes(0, 0, end, end, 0, sky), pile(slab(0, sky, 0, 0, end, end))},
		{boxes(0, 0, 1, 1, 0, 1), cube(0, 0, 0)}, {boxes(end-1, end-1, end, end, sky-1, sky), cube(end-1, end-1, sky-1)}, {boxes(0, end-1, 1, end, sky-1, sky), cube(0, end-1, sky-1)}, {boxes(end-1, 0, end, 1, 0, 1), cube(end-1, 0, 0)},
		// Boxes that overlap, repeat, or lie one in the other.
		{boxes(0, 0, 2, 2, 0, 3, 0, 0, 1, 2, 2, 5), two}, {boxes(0, 0, 1, 2, 2, 5, 0, 0, 2, 2, 0, 3), two}, {boxes(0, 0, 2, 2, 0, 3, 0, 0, 1, 2, 3, 5), two}, {boxes(0, 0, 2, 2, 0, 3, 0, 0, 1, 2, 0, 5), two},
		{boxes(0, 0, 2, 2, 0, 3, 0, 0, 1, 2, 2, 5, 0, 0, 2, 2, 0, 3, 0, 0, 1, 2, 2, 5), two}, {boxes(0, 0, 9, 9, 0, 9, 3, 3, 4, 4, 3, 4), pile(slab(0, 9, 0, 0, 9, 9))}, {boxes(3, 3, 4, 4, 3, 4, 0, 0, 9, 9, 0, 9), pile(slab(0, 9, 0, 0, 9, 9))},
		{boxes(0, 0, 2, 2, 0, 2, 1, 1, 3, 3, 1, 3), pile(slab(0, 1, 0, 0, 2, 2), slab(1, 2, 0, 0, 1, 2, 1, 0, 2, 3, 2, 1, 3, 3), slab(2, 3, 1, 1, 3, 3))},
		{boxes(0, 0, 1, 1, 0, 9, 0, 0, 1, 1, 3, 4), pile(slab(0, 9, 0, 0, 1, 1))}, {boxes(0, 0, 1, 1, 0, 4, 0, 0, 1, 1, 2, 6), pile(slab(0, 6, 0, 0, 1, 1))},
		// Boxes that touch below each other, beside each other, at an edge, at a corner, or not at all.
		{boxes(0, 0, 2, 2, 3, 5, 0, 0, 2, 2, 0, 3), pile(slab(0, 5, 0, 0, 2, 2))}, {boxes(0, 0, 2, 2, 4, 5, 0, 0, 2, 2, 0, 3), pile(slab(0, 3, 0, 0, 2, 2), slab(4, 5, 0, 0, 2, 2))},
		{boxes(0, 0, 1, 1, 0, 2, 1, 0, 2, 1, 0, 2), pile(slab(0, 2, 0, 0, 2, 1))}, {boxes(0, 0, 1, 1, 0, 2, 0, 1, 1, 2, 0, 2), pile(slab(0, 2, 0, 0, 1, 2))}, {boxes(0, 0, 1, 1, 0, 2, 1, 0, 2, 1, 0, 1), pile(slab(0, 1, 0, 0, 2, 1), slab(1, 2, 0, 0, 1, 1))},
		{boxes(0, 0, 1, 1, 0, 1, 1, 0, 2, 1, 1, 2), pile(slab(0, 1, 0, 0, 1, 1), slab(1, 2, 1, 0, 2, 1))}, {boxes(0, 0, 1, 1, 0, 1, 1, 1, 2, 2, 0, 1), pile(slab(0, 1, 0, 0, 1, 1, 1, 1, 2, 2))}, {boxes(1, 1, 2, 2, 1, 2, 0, 0, 1, 1, 0, 1), pile(slab(0, 1, 0, 0, 1, 1), slab(1, 2, 1, 1, 2, 2))},
		{boxes(0, 0, 1, 1, 0, 2, 1, 1, 2, 2, 1, 3, 0, 0, 1, 1, 0, 1), pile(slab(0, 1, 0, 0, 1, 1), slab(1, 2, 0, 0, 1, 1, 1, 1, 2, 2), slab(2, 3, 1, 1, 2, 2))},
		{boxes(5, 0, 6, 1, 9, 10, 0, 5, 1, 6, 0, 1), pile(slab(0, 1, 0, 5, 1, 6), slab(9, 10, 5, 0, 6, 1))}, {boxes(0, 0, 1, 1, 0, 1, 0, 0, 1, 1, sky-1, sky), pile(slab(0, 1, 0, 0, 1, 1), slab(sky-1, sky, 0, 0, 1, 1))},
		// Cross-sections that are equal, but put together otherwise.
		{boxes(0, 0, 2, 1, 0, 1, 0, 1, 2, 2, 0, 1, 0, 0, 1, 2, 1, 2, 1, 0, 2, 2, 1, 2), pile(slab(0, 2, 0, 0, 2, 2))}, {boxes(0, 0, 1, 2, 0, 4, 1, 0, 2, 1, 0, 2, 1, 1, 2, 2, 0, 1, 1, 0, 2, 2, 1, 4), pile(slab(0, 4, 0, 0, 2, 2))},
		{boxes(0, 0, 1, 1, 0, 1, 0, 0, 2, 2, 1, 2, 0, 0, 1, 1, 2, 3), pile(slab(0, 1, 0, 0, 1, 1), slab(1, 2, 0, 0, 2, 2), slab(2, 3, 0, 0, 1, 1))},
		// Holes: a shaft, and a closed room.
		{boxes(0, 0, 1, 3, 0, 2, 2, 0, 3, 3, 0, 2, 0, 0, 3, 1, 0, 2, 0, 2, 3, 3, 0, 2), pile(over(0, 2, ring()))},
		{boxes(0, 0, 1, 3, 0, 3, 2, 0, 3, 3, 0, 3, 0, 0, 3, 1, 0, 3, 0, 2, 3, 3, 0, 3, 0, 0, 3, 3, 0, 1, 0, 0, 3, 3, 2, 3), pile(slab(0, 1, 0, 0, 3, 3), over(1, 2, ring()), slab(2, 3, 0, 0, 3, 3))},
		// The whole grid, in pieces.
		{boxes(0, 0, end, 5, 0, sky, 0, 5, end, end, 0, 9, 0, 5, end, end, 9, sky), pile(slab(0, sky, 0, 0, end, end))}, {boxes(0, 0, end, end, 0, sky-1, 0, 0, end, end, 1, sky), pile(slab(0, sky, 0, 0, end, end))},
		{boxes(0, 0, end, end, 0, 1, 0, 0, 1, end, 0, sky), pile(slab(0, 1, 0, 0, end, end), slab(1, sky, 0, 0, 1, end))},
	} {
		got, e := Of(c.l)
		check(t, []any{"Of", c.l}, got, e, c.want, api.OK)
		slices.Reverse(c.l)
		got, e = Of(c.l)
		check(t, []any{"Of", c.l}, got, e, c.want, api.OK)
	}
}

// permute calls visit with every order of a list.
func permute(l []api.Box, n int, visit func()) {
	if n == len(l) {
		visit()
	}
	for i := n; i < len(l); i++ {
		l[n], l[i] = l[i], l[n]
		permute(l, n+1, visit)
		l[n], l[i] = l[i], l[n]
	}
}

// P9.1, P9.6: the order of the boxes does not matter.
func TestOfOrder(t *testing.T) {
	want := pile(slab(0, 1, 0, 0, 2, 2), slab(1, 2, 0, 0, 1, 2, 1, 0, 2, 3, 2, 1, 3, 3), slab(2, 3, 1, 1, 3, 3), slab(3, 4, 1, 1, 2, 2), slab(5, 6, 0, 0, 1, 1, 4, 4, 5, 5))
	l := boxes(0, 0, 2, 2, 0, 2, 1, 1, 3, 3, 1, 3, 1, 1, 2, 2, 1, 4, 4, 4, 5, 5, 5, 6, 0, 0, 1, 1, 5, 6, 1, 1, 2, 2, 3, 4)
	count := 0
	permute(l, 0, func() {
		got, e := Of(l)
		check(t, l, got, e, want, api.OK)
		count++
	})
	if count != 720 {
		t.Error("not all orders", count)
	}
}

// notBoxes has boxes that are not valid, each for another reason.
func notBoxes() []api.Box {
	l := []api.Box{{}, {Base: list(3, 3, 3, 4)[0], Z0: 5, Z1: 3}}
	for _, r := range notRects() {
		l = append(l, api.Box{Base: r, Z0: 0, Z1: 1}, api.Box{Base: r, Z0: 0, Z1: sky})
	}
	for _, z := range notRanges() {
		l = append(l, boxes(0, 0, 1, 1, z[0], z[1], 0, 0, end, end, z[0], z[1])...)
	}
	return l
}

// P9.1: one box that is not valid is an error, wherever it stands, also where there are too many boxes, slabs or
// rectangles.
func TestOfInvalid(t *testing.T) {
	crossed := append(boxesOver(posts(3, 300), 0, 1), boxesOver(bars(66, 300), 0, 1)...)
	some := [][]api.Box{nil, boxes(0, 0, 1, 1, 0, 1), boxes(0, 0, 9, 9, 0, 9, 3, 3, 4, 4, 0, sky), storeys(81), storeys(199), storeys(200), storeys(201), storeys(999), crossed}
	for _, wrong := range notBoxes() {
		for _, l := range some {
			for _, at := range []int{0, len(l) / 2, len(l)} {
				l := slices.Insert(slices.Clone(l), at, wrong)
				got, e := Of(l)
				check(t, []any{"Of", at, wrong, len(l)}, got, e, nil, api.ErrArg)
			}
		}
		got, e := Of([]api.Box{wrong, wrong, {}})
		check(t, []any{"Of", wrong}, got, e, nil, api.ErrArg)
	}
}

// boxesOver returns boxes over some rectangles, all between the same heights.
func boxesOver(area []api.Rect, z0, z1 int) []api.Box {
	var l []api.Box
	for _, r := range area {
		l = append(l, api.Box{Base: r, Z0: z0, Z1: z1})
	}
	return l
}

// storeys returns n boxes above each other, each of them one high, with a free height below each.
func storeys(n int) []api.Box {
	var l []api.Box
	for i := range n {
		l = append(l, boxes(0, 0, 1, 1, 2*i+1, 2*i+2)...)
	}
	return l
}

// P9.1: there may be MaxRects boxes, and not one more, whatever they become.
func TestOfManyBoxes(t *testing.T) {
	for _, b := range boxes(0, 0, 1, 1, 0, 1, 0, 0, end, end, 0, sky) {
		for _, n := range []int{199, 200, 201, 202, 400, 401, 5000} {
			got, e := Of(slices.Repeat([]api.Box{b}, n))
			if n <= 200 {
				check(t, []any{"Of", n}, got, e, pile(over(b.Z0, b.Z1, []api.Rect{b.Base})), api.OK)
			} else {
				check(t, []any{"Of", n}, got, e, nil, api.ErrFull)
			}
		}
	}
	// 200 boxes above each other, and beside each other, are one; 201 are too many.
	var up, along []api.Box
	for i := range 201 {
		up, along = append(up, boxes(3, 3, 5, 5, i, i+1)...), append(along, boxes(i, 0, i+1, 9, 3, 5)...)
	}
	got, e := Of(up[:200])
	check(t, "up", got, e, pile(slab(0, 200, 3, 3, 5, 5)), api.OK)
	got, e = Of(along[:200])
	check(t, "along", got, e, pile(slab(3, 5, 0, 0, 200, 9)), api.OK)
	for _, l := range [][]api.Box{up, along} {
		got, e = Of(l)
		check(t, "201", got, e, nil, api.ErrFull)
	}
}

// P9.1: a solid may have MaxSlabs slabs, and MaxRects rectangles in each of them, and not one more.
func TestOfLimits(t *testing.T) {
	wedges := func(n, thick int) []api.Box {
		var l []api.Box
		for i := range n {
			l = append(l, boxes(i, 0, i+1, 1, 0, (i+1)*thick)...)
		}
		return l
	}
	half := func(n int) []api.Box { return append(storeys(n), boxes(5, 5, 6, 6, 0, 2*n)...) }
	crossed := func(n, m, z0, z1 int) []api.Box {
		return append(boxesOver(posts(n, 300), z0, z1), boxesOver(bars(m, 300), z0, z1)...)
	}
	far := func(n int) []api.Box {
		l := storeys(n)
		for i := range l {
			l[i].Base = list(999, 0, 1000, 1)[0]
		}
		return l
	}
	block := boxes(0, 0, end, end, 0, sky)[0]
	for i, c := range []struct {
		l    []api.Box
		n, m int // slabs, and rectangles of one of them
	}{
		{storeys(79), 79, 1}, {storeys(80), 80, 1}, {storeys(81), 81, 1}, {storeys(200), 200, 1}, {append(storeys(199), block), 1, 1}, {append(storeys(81), boxes(0, 0, 1, 1, 82, 83)...), 80, 1}, {append(storeys(82), boxes(0, 0, 1, 1, 82, 83)...), 81, 1},
		{wedges(80, 1), 80, 1}, {wedges(80, 51), 80, 1}, {wedges(81, 1), 81, 1}, {wedges(81, 50), 81, 1}, {wedges(200, 20), 200, 1}, {append(wedges(199, 20), block), 1, 1}, {append(wedges(199, 20), boxes(0, 0, 500, 1, 0, 2401)...), 80, 1},
		{append(wedges(199, 20), boxes(0, 0, 500, 1, 0, 2399)...), 81, 1}, {half(40), 80, 2}, {half(41), 82, 2}, {append(half(40), boxes(5, 5, 6, 6, 90, 91)...), 81, 2}, {half(199), 398, 2},
		{boxesOver(posts(200, 9), 3, 5), 1, 200}, {boxesOver(bars(200, 9), 3, 5), 1, 200}, {boxesOver(posts(200, end), 0, sky), 1, 200},
		// Posts that cross bars: as many rectangles as bars for each post, and for each gap before a post and behind the last one, one.
		{crossed(2, 66, 0, 1), 1, 200}, {crossed(1, 99, 0, 1), 1, 199}, {crossed(1, 100, 0, 1), 1, 201}, {crossed(2, 66, 9, sky), 1, 200}, {crossed(3, 50, 9, sky), 1, 203}, {crossed(100, 100, 0, 1), 1, 9999},
		{append(crossed(2, 66, 0, 1), crossed(1, 99, 1, 2)...), 2, 200}, {append(crossed(1, 99, 0, 1), crossed(1, 98, 0, 1)...), 1, 199}, {append(crossed(1, 100, 5, 6), storeys(9)...), 9, 201},
		{append(crossed(1, 100, 0, 1), block), 1, 1}, {append(crossed(1, 100, 0, 2), boxes(0, 0, end, end, 0, 1)...), 2, 201}, {append(crossed(1, 100, 0, 2), boxes(0, 0, end, end, 1, 2)...), 2, 201}, {append(crossed(1, 100, 0, 3), boxes(0, 0, end, end, 0, 1, 0, 0, end, end, 2, 3)...), 3, 201},
		// Many slabs of many rectangles.
		{append(crossed(1, 99, 0, 80), far(40)...), 80, 200}, {append(crossed(1, 99, 0, 81), far(40)...), 81, 200}, {append(crossed(2, 66, 0, 80), far(40)...), 80, 201},
		{append(wedgesOver(posts(120, 9), 34), boxesOver(bars(1, 9), 0, sky)...), 121, 241}, {wedgesOver(posts(80, 9), 51), 80, 80}, {wedgesOver(posts(81, 9), 50), 81, 81},
	} {
		got, e := Of(c.l)
		checkSize(t, []any{"Of", i}, got, e, c.n, c.m)
	}
}

// wedgesOver returns boxes over some rectangles, each of them higher than the one before.
func wedgesOver(area []api.Rect, thick int) []api.Box {
	l := boxesOver(area, 0, 0)
	for i := range l {
		l[i].Z1 = (i + 1) * thick
	}
	return l
}

// P9.1: Right knows which lists are solids.
func TestRight(t *testing.T) {
	for _, s := range solids() {
		if !Right(s) {
			fail(t, s, "is a solid")
		}
	}
	for _, s := range notSolids() {
		if Right(s) {
			fail(t, s, "is no solid")
		}
	}
}

// P9.1, P9.7: a solid is what its boxes become; a list that is not one is not.
func TestRightForm(t *testing.T) {
	for _, s := range append(solids(), notSolids()...) {
		var l []api.Box
		for _, m := range s {
			l = append(l, boxesOver(m.Area, m.Z0, m.Z1)...)
		}
		got, e := Of(l)
		if len(l) <= 200 && Right(s) != (e == api.OK && equal(got, s)) {
			fail(t, s, Right(s), got, e)
		}
	}
}
