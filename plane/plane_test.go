package plane

import (
	"fmt"
	"math"
	"slices"
	"testing"

	"greenbelt/api"
	"greenbelt/solid"
)

const (
	end = 1048576 // 2^20
	sky = 4096    // 2^12
)

// at returns a rectangle as it is written, valid or not.
func at(x0, y0, x1, y1 int) api.Rect { return api.Rect{X0: x0, Y0: y0, X1: x1, Y1: y1} }

// planes returns the planes with the given numbers, four each, valid or not: the side, the base and the slope.
func planes(n ...int) []api.Plane {
	var l []api.Plane
	for ; len(n) > 0; n = n[4:] {
		l = append(l, api.Plane{Side: n[0], Base: n[1], Num: n[2], Den: n[3]})
	}
	return l
}

// boxes returns the boxes with the given numbers, six each, valid or not: the base and the heights.
func boxes(n ...int) []api.Box {
	var l []api.Box
	for ; len(n) > 0; n = n[6:] {
		l = append(l, api.Box{Base: at(n[0], n[1], n[2], n[3]), Z0: n[4], Z1: n[5]})
	}
	return l
}

// of returns the solid of some boxes.
func of(l []api.Box) []api.Slab {
	s, e := solid.Of(l)
	if e != api.OK {
		panic(fmt.Sprint("no solid: ", l))
	}
	return s
}

// built returns the solid of the boxes with the given numbers, six each.
func built(n ...int) []api.Slab { return of(boxes(n...)) }

// cube returns the solid of one cube.
func cube(x, y, z int) []api.Slab { return built(x, y, x+1, y+1, z, z+1) }

// slab returns a slab over some rectangles.
func slab(z0, z1 int, area ...api.Rect) api.Slab { return api.Slab{Z0: z0, Z1: z1, Area: area} }

// notRects has rectangles that are not valid, each for another reason.
func notRects() []api.Rect {
	return []api.Rect{
		{}, at(3, 3, 3, 4), at(3, 3, 4, 3), at(4, 3, 3, 4), at(3, 4, 4, 3), at(-1, 0, 1, 1), at(0, -1, 1, 1), at(0, 0, end+1, 1), at(0, 0, 1, end+1), at(end, 0, end+1, 1), at(0, end, 1, end+1), at(end, end, end, end), at(-2, -2, -1, -1),
		at(0, 0, math.MaxInt, math.MaxInt), at(0, 0, math.MinInt, 1), at(math.MinInt, math.MinInt, math.MaxInt, math.MaxInt), at(0, math.MinInt, 1, 1), at(math.MaxInt, 0, math.MinInt, 1), at(1<<32, 0, 1<<32+1, 1), at(math.MinInt, math.MinInt, math.MinInt+1, math.MinInt+1),
	}
}

// valid has planes that are valid: each number is the least and the greatest one.
func valid() []api.Plane {
	var l []api.Plane
	for side := range 4 {
		for _, base := range []int{0, 1, 9, sky - 1, sky} {
			for _, num := range []int{0, 1, 3, sky - 1, sky} {
				for _, den := range []int{1, 2, sky - 1, sky} {
					l = append(l, planes(side, base, num, den)...)
				}
			}
		}
	}
	return l
}

// notPlanes has planes that are not valid: one number of each is below or beyond its range, or several are.
func notPlanes() []api.Plane {
	l := []api.Plane{{}, {Side: 4}, {Side: -1, Base: -1, Num: -1, Den: -1}, {Side: math.MinInt, Base: math.MinInt, Num: math.MinInt, Den: math.MinInt}, {Side: math.MaxInt, Base: math.MaxInt, Num: math.MaxInt, Den: math.MaxInt}}
	far := []int{-1, -2, -sky, 1 << 32, 1<<32 + 1, -1 << 32, math.MinInt, math.MinInt + 1, math.MaxInt - 1, math.MaxInt}
	for _, n := range append(far, 4, 5, sky) {
		l = append(l, planes(n, 9, 3, 2)...)
	}
	for _, n := range append(far, sky+1, sky+2, end) {
		l = append(l, planes(0, n, 3, 2, 3, n, 0, 1, 0, 9, n, 2, 2, 0, n, sky, 0, 9, 3, n, 1, sky, 0, n)...)
	}
	return append(l, planes(0, 9, 3, 0, 3, 0, 0, 0, 1, sky, sky, 0)...)
}

// notCells has pairs of numbers that are no cell of the grid.
func notCells() [][2]int {
	l := [][2]int{{-1, -1}, {end, end}, {math.MinInt, math.MaxInt}, {math.MaxInt, math.MaxInt}, {math.MinInt, math.MinInt}}
	for _, n := range []int{-1, -2, -end, end, end + 1, 1 << 32, -1 << 32, math.MinInt, math.MaxInt} {
		l = append(l, [2]int{n, 5}, [2]int{5, n}, [2]int{n, 0}, [2]int{0, n}, [2]int{n, end - 1}, [2]int{end - 1, n})
	}
	return l
}

// notSolids has lists of slabs that are no solid, each for another reason. All of them have a slab at the height 50.
func notSolids() [][]api.Slab {
	r, s := at(0, 0, 1, 1), slab(50, 51, at(3, 3, 4, 4))
	l := [][]api.Slab{
		{slab(50, 50, r)}, {slab(51, 50, r)}, {slab(-1, 51, r)}, {slab(50, sky+1, r)}, {slab(math.MinInt, math.MaxInt, r)}, {slab(50, math.MinInt, r)}, {slab(50, 51)}, {slab(50, 51, at(0, 0, 0, 1))}, {slab(50, 51, at(-1, 0, 1, 1))}, {slab(50, 51, at(0, 0, end+1, 1))},
		{slab(50, 51, r, r)}, {slab(50, 51, r, at(1, 0, 2, 1))}, {slab(50, 51, at(1, 0, 2, 1), at(0, 0, 1, 2))}, {slab(50, 51, at(0, 0, 2, 2), at(1, 1, 3, 3))}, {slab(50, 51, posts(201, 1)...)},
		{s, s}, {s, slab(51, 52, at(3, 3, 4, 4))}, {s, slab(40, 41, r)}, {s, slab(50, 52, r)}, {slab(40, 51, r), s}, {s, slab(60, 61)}, {slab(2, 3), s}, {s, slab(60, 60, r)}, {s, slab(60, sky+1, r)}, {s, slab(60, 61, at(0, 0, 0, 0))},
	}
	var floors []api.Slab
	for i := range 81 {
		floors = append(floors, slab(2*i, 2*i+1, r))
	}
	return append(l, floors)
}

// posts returns n rectangles beside each other that are one cell wide and high cells high, with a free cell before each.
func posts(n, high int) []api.Rect {
	var l []api.Rect
	for i := range n {
		l = append(l, at(2*i+1, 0, 2*i+2, high))
	}
	return l
}

// bars returns n rectangles over each other that are one cell high and wide cells wide, with a free cell below each.
func bars(n, wide int) []api.Rect {
	l := posts(n, wide)
	for i, r := range l {
		l[i] = at(r.Y0, r.X0, r.Y1, r.X1)
	}
	return l
}

// P10.1: a plane is valid if each of its numbers is in its range.
func TestRight(t *testing.T) {
	for _, p := range valid() {
		if !Right(p) {
			t.Error(p, "is valid")
		}
	}
	for _, p := range notPlanes() {
		if Right(p) {
			t.Error(p, "is not valid")
		}
	}
}

// P10.1: the distance is 0 for the outermost cells, greater inside and negative beyond the side.
func TestDistance(t *testing.T) {
	b, one, all := at(10, 20, 30, 50), at(7, 9, 8, 10), at(0, 0, end, end)
	for _, c := range []struct {
		b    api.Rect
		x, y int
		want [4]int // West, East, South, North
	}{
		{at(0, 0, 10, 10), 0, 3, [4]int{0, 9, 3, 6}}, {at(0, 0, 10, 10), 12, 3, [4]int{12, -3, 3, 6}},
		// Inside, on the outermost columns and rows, and in the corners.
		{b, 13, 24, [4]int{3, 16, 4, 25}}, {b, 10, 30, [4]int{0, 19, 10, 19}}, {b, 29, 30, [4]int{19, 0, 10, 19}}, {b, 15, 20, [4]int{5, 14, 0, 29}}, {b, 15, 49, [4]int{5, 14, 29, 0}},
		{b, 10, 20, [4]int{0, 19, 0, 29}}, {b, 29, 20, [4]int{19, 0, 0, 29}}, {b, 10, 49, [4]int{0, 19, 29, 0}}, {b, 29, 49, [4]int{19, 0, 29, 0}},
		// Beyond each side, just and as far as there are cells.
		{b, 9, 30, [4]int{-1, 20, 10, 19}}, {b, 30, 30, [4]int{20, -1, 10, 19}}, {b, 15, 19, [4]int{5, 14, -1, 30}}, {b, 15, 50, [4]int{5, 14, 30, -1}}, {b, 0, 0, [4]int{-10, 29, -20, 49}},
		{b, end - 1, end - 1, [4]int{end - 11, 30 - end, end - 21, 50 - end}}, {b, 0, end - 1, [4]int{-10, 29, end - 21, 50 - end}}, {b, end - 1, 0, [4]int{end - 11, 30 - end, -20, 49}},
		// One cell, and the whole grid.
		{one, 7, 9, [4]int{0, 0, 0, 0}}, {one, 6, 10, [4]int{-1, 1, 1, -1}}, {one, 8, 8, [4]int{1, -1, -1, 1}}, {at(0, 0, 1, 1), end - 1, end - 1, [4]int{end - 1, 1 - end, end - 1, 1 - end}}, {at(end-1, end-1, end, end), 0, 0, [4]int{1 - end, end - 1, 1 - end, end - 1}},
		{all, 0, 0, [4]int{0, end - 1, 0, end - 1}}, {all, end - 1, end - 1, [4]int{end - 1, 0, end - 1, 0}}, {all, 5, 700, [4]int{5, end - 6, 700, end - 701}},
	} {
		for side, want := range c.want {
			if got := Distance(c.b, side, c.x, c.y); got != want {
				t.Error(c, side, got)
			}
		}
	}
	if api.West != 0 || api.East != 1 || api.South != 2 || api.North != 3 {
		t.Error("the order of the sides")
	}
}

// P10.1: there is no distance without a valid rectangle, a side and a cell of the grid.
func TestDistanceInvalid(t *testing.T) {
	b := at(10, 20, 30, 50)
	for side := range 4 {
		for _, wrong := range notRects() {
			for _, c := range [][2]int{{0, 0}, {3, 7}, {end - 1, end - 1}} {
				if got := Distance(wrong, side, c[0], c[1]); got != 0 {
					t.Error(wrong, side, c, got)
				}
			}
		}
		for _, c := range notCells() {
			if got := Distance(b, side, c[0], c[1]); got != 0 {
				t.Error(side, c, got)
			}
		}
	}
	for _, side := range []int{-1, -2, 4, 5, 1 << 32, -1 << 32, math.MinInt, math.MaxInt} {
		if got := Distance(b, side, 13, 24); got != 0 {
			t.Error(side, got)
		}
	}
}

// P10.2: the height below which all cubes over a cell are allowed.
func TestTop(t *testing.T) {
	b, west := at(0, 0, 10, 10), planes(api.West, 9, 3, 2)
	lot, all := at(100, 200, 130, 250), at(0, 0, end, end)
	for _, c := range []struct {
		b    api.Rect
		l    []api.Plane
		x, y int
		want int
	}{
		{b, nil, 0, 0, sky}, {b, planes(), end - 1, end - 1, sky}, {at(7, 7, 8, 8), nil, 3, 3, sky},
		{b, west, 0, 0, 9}, {b, west, 1, 0, 10}, {b, west, 2, 5, 12}, {b, west, 3, 9, 13}, {b, west, 10, 0, 24}, {b, append(planes(api.East, 0, 1, 1), west...), 0, 0, 9},
		// Each side, on its outermost cells, inside, and just beyond it.
		{lot, planes(api.West, 4, 1, 1), 100, 220, 4}, {lot, planes(api.West, 4, 1, 1), 107, 220, 11}, {lot, planes(api.West, 4, 1, 1), 99, 220, 3}, {lot, planes(api.West, 4, 1, 1), 96, 220, 0}, {lot, planes(api.West, 4, 1, 1), 95, 220, 0},
		{lot, planes(api.East, 4, 1, 1), 129, 220, 4}, {lot, planes(api.East, 4, 1, 1), 122, 220, 11}, {lot, planes(api.East, 4, 1, 1), 130, 220, 3}, {lot, planes(api.East, 4, 1, 1), 133, 220, 0}, {lot, planes(api.East, 4, 1, 1), 134, 220, 0},
		{lot, planes(api.South, 4, 1, 1), 110, 200, 4}, {lot, planes(api.South, 4, 1, 1), 110, 207, 11}, {lot, planes(api.South, 4, 1, 1), 110, 199, 3}, {lot, planes(api.South, 4, 1, 1), 110, 196, 0}, {lot, planes(api.South, 4, 1, 1), 110, 195, 0},
		{lot, planes(api.North, 4, 1, 1), 110, 249, 4}, {lot, planes(api.North, 4, 1, 1), 110, 242, 11}, {lot, planes(api.North, 4, 1, 1), 110, 250, 3}, {lot, planes(api.North, 4, 1, 1), 110, 253, 0}, {lot, planes(api.North, 4, 1, 1), 110, 254, 0},
		// Slopes between whole heights, rounded down on both sides of the border.
		{lot, planes(api.West, 4, 1, 3), 102, 220, 4}, {lot, planes(api.West, 4, 1, 3), 103, 220, 5}, {lot, planes(api.West, 4, 1, 3), 104, 220, 5}, {lot, planes(api.West, 4, 1, 3), 99, 220, 3}, {lot, planes(api.West, 4, 1, 3), 97, 220, 3}, {lot, planes(api.West, 4, 1, 3), 96, 220, 2},
		{lot, planes(api.East, 4, 5, 3), 128, 220, 5}, {lot, planes(api.East, 4, 5, 3), 127, 220, 7}, {lot, planes(api.East, 4, 5, 3), 126, 220, 9}, {lot, planes(api.East, 4, 5, 3), 130, 220, 2}, {lot, planes(api.East, 4, 5, 3), 131, 220, 0}, {lot, planes(api.North, 9, 7, 4), 110, 252, 3},
		// No slope, and the steepest and the flattest one.
		{lot, planes(api.South, 4, 0, 1), 110, 200, 4}, {lot, planes(api.South, 4, 0, 1), 110, 0, 4}, {lot, planes(api.South, 4, 0, sky), 110, end - 1, 4}, {lot, planes(api.North, 0, 0, 1), 110, 210, 0}, {lot, planes(api.North, sky, 0, 1), 110, 210, sky},
		{lot, planes(api.West, 0, sky, 1), 100, 220, 0}, {lot, planes(api.West, 0, sky, 1), 101, 220, sky}, {lot, planes(api.West, sky, sky, 1), 100, 220, sky}, {lot, planes(api.West, sky, sky, 1), 99, 220, 0}, {lot, planes(api.West, sky, sky-1, 1), 99, 220, 1}, {lot, planes(api.West, 0, sky-1, 1), 101, 220, sky - 1},
		{lot, planes(api.West, 7, 1, sky), 100 + sky - 1, 220, 7}, {lot, planes(api.West, 7, 1, sky), 100 + sky, 220, 8}, {lot, planes(api.West, 7, 1, sky), 99, 220, 6}, {lot, planes(api.West, 7, 1, sky), 0, 220, 6}, {lot, planes(api.East, 7, 1, sky), end - 1, 220, 0},
		{lot, planes(api.East, 700, 1, sky), 129 + sky, 220, 699}, {lot, planes(api.East, 700, 1, sky), 130 + sky, 220, 698}, {lot, planes(api.South, 9, sky, sky), 110, 210, 19}, {lot, planes(api.South, 9, sky-1, sky), 110, 210, 18}, {lot, planes(api.South, 9, sky, sky-1), 110, 210, 19},
		// The lowest plane counts, of several sides and of the same one.
		{lot, planes(api.West, 9, 1, 1, api.East, 9, 1, 1, api.South, 9, 1, 1, api.North, 9, 1, 1), 103, 220, 12}, {lot, planes(api.West, 9, 1, 1, api.East, 9, 1, 1, api.South, 9, 1, 1, api.North, 9, 1, 1), 127, 220, 11}, {lot, planes(api.West, 9, 1, 1, api.East, 9, 1, 1, api.South, 9, 1, 1, api.North, 9, 1, 1), 115, 201, 10},
		{lot, planes(api.West, 9, 1, 1, api.East, 9, 1, 1, api.South, 9, 1, 1, api.North, 9, 1, 1), 115, 245, 13}, {lot, planes(api.West, 9, 1, 1, api.West, 3, 4, 1), 101, 220, 7}, {lot, planes(api.West, 3, 4, 1, api.West, 9, 1, 1), 103, 220, 12}, {lot, planes(api.West, 9, 1, 1, api.West, 3, 4, 1), 102, 220, 11},
		{lot, planes(api.West, 5, 1, 1, api.East, 0, 0, 1), 103, 220, 0}, {lot, planes(api.West, 5, 1, 1, api.East, 6, 1, 1), 140, 220, 0}, {lot, planes(api.East, 6, 1, 1, api.West, 5, 1, 1), 140, 220, 0},
		// A rectangle of one cell, the whole grid, and the corners of the grid.
		{at(7, 9, 8, 10), planes(api.West, 2, 1, 1, api.East, 2, 1, 1), 7, 9, 2}, {at(7, 9, 8, 10), planes(api.West, 2, 1, 1, api.East, 2, 1, 1), 8, 9, 1}, {all, planes(api.West, 2, 1, 1), 0, 0, 2}, {all, planes(api.West, 2, 1, 1), end - 1, 0, sky}, {all, planes(api.West, 2, 1, sky), end - 1, 0, 2 + 255},
		{all, planes(api.East, 2, 1, sky), 0, 0, 2 + 255}, {all, planes(api.North, 2, 1, sky), 0, end - 1, 2}, {all, planes(api.East, 2, 1, 1), sky, 0, sky}, {at(0, 0, 1, 1), planes(api.East, sky, sky, 1), end - 1, end - 1, 0}, {at(0, 0, 1, 1), planes(api.North, sky, 1, sky), end - 1, end - 1, sky - 256},
		{at(end-1, end-1, end, end), planes(api.West, sky, 1, sky), 0, 0, sky - 256}, {at(end-1, end-1, end, end), planes(api.South, sky, sky, 1), 0, 0, 0}, {at(0, 0, 1, 1), planes(api.West, 0, sky, 1), end - 1, 0, sky}, {at(0, 0, 1, 1), planes(api.South, 0, 1, sky), end - 1, end - 1, 255},
	} {
		if got := Top(c.b, c.l, c.x, c.y); got != c.want {
			t.Error(c, got)
		}
	}
}

// P10.2: there is no height for arguments that are not valid, or no cell.
func TestTopInvalid(t *testing.T) {
	b, right := at(0, 0, 10, 10), planes(api.West, 9, 3, 2)
	for _, wrong := range notRects() {
		for _, l := range [][]api.Plane{nil, right, planes(api.West, 0, 0, 1), notPlanes()[:1]} {
			for _, c := range [][2]int{{0, 0}, {3, 3}, {-1, 3}} {
				if got := Top(wrong, l, c[0], c[1]); got != -1 {
					t.Error(wrong, l, c, got)
				}
			}
		}
	}
	for _, wrong := range notPlanes() {
		for _, l := range [][]api.Plane{{wrong}, append(planes(api.West, 0, 0, 1), wrong), append([]api.Plane{wrong}, right...), {right[0], wrong, right[0]}} {
			for _, c := range [][2]int{{0, 0}, {3, 3}, {-1, 3}} {
				if got := Top(b, l, c[0], c[1]); got != -1 {
					t.Error(l, c, got)
				}
			}
		}
	}
	for _, c := range notCells() {
		for _, l := range [][]api.Plane{nil, right, planes(api.North, 0, 0, 1)} {
			if got := Top(b, l, c[0], c[1]); got != -1 {
				t.Error(l, c, got)
			}
		}
	}
}

// checkRoom fails the test unless a call returned the wanted rectangle, or none if it is zero, and the wanted error.
func checkRoom(t *testing.T, what any, got []api.Rect, e api.Errno, want api.Rect, is api.Errno) {
	t.Helper()
	l := []api.Rect{want}
	if want == (api.Rect{}) {
		l = nil
	}
	if e != is || !slices.Equal(got, l) {
		t.Error(what, got, e, "not", l, is)
	}
}

// P10.2: the cells over which all cubes below a height are allowed.
func TestRoom(t *testing.T) {
	b, all, none := at(0, 0, 10, 10), at(0, 0, end, end), api.Rect{}
	lot := at(100, 200, 130, 250)
	west := planes(api.West, 9, 3, 2)
	tent := planes(api.West, 9, 1, 1, api.East, 9, 1, 1, api.South, 9, 1, 1, api.North, 9, 1, 1)
	for _, c := range []struct {
		b    api.Rect
		l    []api.Plane
		z    int
		want api.Rect
	}{
		{b, nil, 0, all}, {b, nil, 1, all}, {b, nil, sky, all}, {b, planes(), 77, all},
		{b, west, 9, all}, {b, west, 10, at(1, 0, end, end)}, {b, west, 11, at(2, 0, end, end)}, {b, west, 12, at(2, 0, end, end)}, {b, west, 13, at(3, 0, end, end)}, {b, west, 0, all}, {b, west, 1, all}, {b, west, sky, at(2725, 0, end, end)}, {b, west, sky - 1, at(2724, 0, end, end)},
		// Each side: the height of the base, above it, and below it.
		{lot, planes(api.West, 4, 1, 1), 4, at(100, 0, end, end)}, {lot, planes(api.West, 4, 1, 1), 6, at(102, 0, end, end)}, {lot, planes(api.West, 4, 1, 1), 1, at(97, 0, end, end)}, {lot, planes(api.West, 4, 1, 1), 0, all},
		{lot, planes(api.East, 4, 1, 1), 4, at(0, 0, 130, end)}, {lot, planes(api.East, 4, 1, 1), 6, at(0, 0, 128, end)}, {lot, planes(api.East, 4, 1, 1), 1, at(0, 0, 133, end)}, {lot, planes(api.East, 4, 1, 1), 0, all},
		{lot, planes(api.South, 4, 1, 1), 4, at(0, 200, end, end)}, {lot, planes(api.South, 4, 1, 1), 6, at(0, 202, end, end)}, {lot, planes(api.South, 4, 1, 1), 1, at(0, 197, end, end)}, {lot, planes(api.South, 4, 1, 1), 0, all},
		{lot, planes(api.North, 4, 1, 1), 4, at(0, 0, end, 250)}, {lot, planes(api.North, 4, 1, 1), 6, at(0, 0, end, 248)}, {lot, planes(api.North, 4, 1, 1), 1, at(0, 0, end, 253)}, {lot, planes(api.North, 4, 1, 1), 0, all},
		// Heights that fall between two cells.
		{lot, planes(api.West, 4, 5, 3), 5, at(101, 0, end, end)}, {lot, planes(api.West, 4, 5, 3), 6, at(102, 0, end, end)}, {lot, planes(api.West, 4, 5, 3), 9, at(103, 0, end, end)}, {lot, planes(api.West, 4, 5, 3), 10, at(104, 0, end, end)}, {lot, planes(api.West, 4, 5, 3), 3, at(100, 0, end, end)}, {lot, planes(api.West, 4, 5, 3), 2, at(99, 0, end, end)},
		{lot, planes(api.West, 4, 1, 3), 3, at(97, 0, end, end)}, {lot, planes(api.West, 4, 1, 3), 5, at(103, 0, end, end)}, {lot, planes(api.North, 4, 5, 3), 5, at(0, 0, end, 249)}, {lot, planes(api.North, 4, 5, 3), 2, at(0, 0, end, 251)}, {lot, planes(api.North, 4, 5, 3), 1, at(0, 0, end, 251)},
		// No slope: everywhere or nowhere.
		{lot, planes(api.South, 5, 0, 1), 4, all}, {lot, planes(api.South, 5, 0, 1), 5, all}, {lot, planes(api.South, 5, 0, 1), 6, none}, {lot, planes(api.South, 5, 0, sky), sky, none}, {lot, planes(api.North, 0, 0, 1), 0, all}, {lot, planes(api.North, 0, 0, 1), 1, none}, {lot, planes(api.North, sky, 0, 1), sky, all},
		{lot, planes(api.West, 5, 0, 7), 6, none}, {lot, planes(api.East, 5, 0, 7), 6, none}, {lot, planes(api.West, 5, 0, 7), 5, all}, {lot, planes(api.East, 5, 0, 7), 5, all}, {all, planes(api.West, 5, 0, 1), 6, none}, {all, planes(api.East, 5, 0, 1), 6, none}, {all, planes(api.South, 5, 0, 1), 6, none}, {all, planes(api.North, 5, 0, 1), 6, none},
		// The steepest and the flattest slope.
		{lot, planes(api.West, 0, sky, 1), sky, at(101, 0, end, end)}, {lot, planes(api.West, 0, sky, 1), 1, at(101, 0, end, end)}, {lot, planes(api.West, 0, sky, 1), 0, all}, {lot, planes(api.West, sky, sky, 1), sky, at(100, 0, end, end)}, {lot, planes(api.West, sky, sky, 1), 1, at(100, 0, end, end)}, {lot, planes(api.West, sky, sky-1, 1), 1, at(99, 0, end, end)},
		{lot, planes(api.East, 9, 1, sky), 9, at(0, 0, 130, end)}, {lot, planes(api.East, 9, 1, sky), 10, none}, {lot, planes(api.East, 9, 1, sky), 8, at(0, 0, 130+sky, end)}, {lot, planes(api.East, 300, 1, sky), 45, at(0, 0, 130+255*sky, end)}, {lot, planes(api.East, 300, 1, sky), 44, all}, {lot, planes(api.West, 0, 1, sky), sky, none}, {lot, planes(api.West, sky, 1, sky), 1, all},
		{lot, planes(api.North, sky, sky, 1), 1, at(0, 0, end, 250)}, {lot, planes(api.South, 0, 1, sky), 255, at(0, 200+255*sky, end, end)}, {lot, planes(api.South, 0, 1, sky), 256, none},
		// Several planes, also such that only a cell or nothing is left.
		{lot, tent, 9, lot}, {lot, tent, 10, at(101, 201, 129, 249)}, {lot, tent, 23, at(114, 214, 116, 236)}, {lot, tent, 24, none}, {lot, tent, 8, at(99, 199, 131, 251)}, {lot, tent, 1, at(92, 192, 138, 258)}, {lot, tent, 0, all}, {lot, tent, sky, none},
		{at(7, 9, 8, 10), tent, 9, at(7, 9, 8, 10)}, {at(7, 9, 8, 10), tent, 10, none}, {at(7, 9, 8, 10), tent, 1, at(0, 1, 16, 18)}, {at(0, 0, 3, 5), tent, 10, at(1, 1, 2, 4)}, {at(0, 0, 3, 5), tent, 11, none}, {at(0, 0, 5, 3), tent, 10, at(1, 1, 4, 2)}, {at(0, 0, 5, 3), tent, 11, none},
		{lot, planes(api.West, 9, 1, 1, api.West, 3, 4, 1), 7, at(101, 0, end, end)}, {lot, planes(api.West, 3, 4, 1, api.West, 9, 1, 1), 7, at(101, 0, end, end)}, {lot, planes(api.West, 9, 1, 1, api.West, 3, 4, 1), 12, at(103, 0, end, end)}, {lot, planes(api.West, 3, 4, 1, api.West, 9, 1, 1), 12, at(103, 0, end, end)},
		{lot, planes(api.West, 9, 1, 1, api.East, 2, 0, 1), 2, at(93, 0, end, end)}, {lot, planes(api.West, 9, 1, 1, api.East, 2, 0, 1), 3, none}, {lot, planes(api.West, 0, 1, 1, api.North, 0, 1, 1), 3, at(103, 0, end, 247)}, {lot, planes(api.East, 0, 1, 1, api.South, 0, 1, 1), 3, at(0, 203, 127, end)},
		// The whole grid, and its corners.
		{all, tent, 9, all}, {all, tent, 8, all}, {all, tent, 10, at(1, 1, end-1, end-1)}, {all, tent, sky, at(sky-9, sky-9, end-sky+9, end-sky+9)}, {at(0, 0, 1, 1), tent, 9, at(0, 0, 1, 1)}, {at(0, 0, 1, 1), tent, 8, at(0, 0, 2, 2)}, {at(end-1, end-1, end, end), tent, 9, at(end-1, end-1, end, end)}, {at(end-1, end-1, end, end), tent, 8, at(end-2, end-2, end, end)},
		{at(0, end-1, 1, end), tent, 7, at(0, end-3, 3, end)}, {at(end-1, 0, end, 1), tent, 7, at(end-3, 0, end, 3)}, {at(0, 0, end/2, 1), planes(api.East, 0, 1, 128), sky, at(0, 0, 0, 0)}, {at(0, 0, end/2, 1), planes(api.East, 0, 1, 128), sky - 1, at(0, 0, 128, end)}, {at(0, 0, end/2+1, 1), planes(api.East, 0, 1, 128), sky, at(0, 0, 1, end)},
		{at(end/2, 0, end, end), planes(api.West, 0, 1, 128), sky, none}, {at(end/2-1, 0, end, end), planes(api.West, 0, 1, 128), sky, at(end-1, 0, end, end)}, {at(0, end/2, end, end), planes(api.South, 0, 1, 128), sky, none}, {at(0, end/2-1, end, end), planes(api.South, 0, 1, 128), sky, at(0, end-1, end, end)},
		{at(0, 0, 1, end/2), planes(api.North, 0, 1, 128), sky, none}, {at(0, 0, 1, end/2+1), planes(api.North, 0, 1, 128), sky, at(0, 0, end, 1)},
	} {
		got, e := Room(c.b, c.l, c.z)
		checkRoom(t, c, got, e, c.want, api.OK)
	}
}

// P10.2: a rectangle or a plane that is not valid comes before a height that is none, and neither has a region.
func TestRoomInvalid(t *testing.T) {
	b, right := at(0, 0, 10, 10), planes(api.West, 9, 3, 2)
	heights := []int{-1, -2, -sky, sky + 1, sky + 2, end, 1 << 32, 1<<32 + 1, -1 << 32, math.MinInt, math.MinInt + 1, math.MaxInt - 1, math.MaxInt}
	for _, z := range heights {
		for _, l := range [][]api.Plane{nil, right, planes(api.South, 0, 0, 1)} {
			got, e := Room(b, l, z)
			checkRoom(t, []any{l, z}, got, e, api.Rect{}, api.ErrRange)
		}
	}
	for _, z := range append(heights, 0, 1, 9, sky) {
		for _, wrong := range notRects() {
			for _, l := range [][]api.Plane{nil, right, notPlanes()[:1]} {
				got, e := Room(wrong, l, z)
				checkRoom(t, []any{wrong, l, z}, got, e, api.Rect{}, api.ErrArg)
			}
		}
		for _, wrong := range notPlanes() {
			for _, l := range [][]api.Plane{{wrong}, append(planes(api.West, 0, 0, 1), wrong), append([]api.Plane{wrong}, right...), {right[0], wrong, right[0]}} {
				got, e := Room(b, l, z)
				checkRoom(t, []any{l, z}, got, e, api.Rect{}, api.ErrArg)
			}
		}
	}
}

// checkFirst fails the test unless First and Allows say that the wanted cube is the first one that is not allowed, or
// that there is none.
func checkFirst(t *testing.T, what any, b api.Rect, l []api.Plane, s []api.Slab, want api.Point3, is bool) {
	t.Helper()
	if got, found := First(b, l, s); got != want || found != is || Allows(b, l, s) == is {
		t.Error(what, got, found, Allows(b, l, s), "not", want, is)
	}
}

// none stands in a table for a cube, where there is none.
var none = api.Point3{X: -1, Y: -1, Z: -1}

// P10.3: the first cube is the one with the least height, of several the one with the least x, then with the least y.
func TestFirst(t *testing.T) {
	b, west, flat := at(0, 0, 10, 10), planes(api.West, 9, 3, 2), planes(api.South, 5, 0, 1)
	east, south, north := planes(api.East, 9, 3, 2), planes(api.South, 9, 3, 2), planes(api.North, 9, 3, 2)
	tent := planes(api.West, 4, 1, 1, api.East, 4, 1, 1, api.South, 4, 1, 1, api.North, 4, 1, 1)
	two := planes(api.West, 9, 3, 2, api.South, 3, 2, 1)
	p := func(x, y, z int) api.Point3 { return api.Point3{X: x, Y: y, Z: z} }
	for i, c := range []struct {
		b    api.Rect
		l    []api.Plane
		s    []api.Slab
		want api.Point3
	}{
		// No cubes, and no planes.
		{b, nil, nil, none}, {b, west, nil, none}, {b, planes(api.West, 0, 0, 1), []api.Slab{}, none}, {b, nil, built(0, 0, end, end, 0, sky), none}, {b, nil, cube(end-1, end-1, sky-1), none},
		// One volume: up to the plane, one cube more, and several at the same height.
		{b, west, built(0, 0, 2, 2, 0, 9), none}, {b, west, built(0, 0, 2, 2, 0, 10), p(0, 0, 9)}, {b, west, built(0, 3, 2, 5, 0, 10), p(0, 3, 9)}, {b, west, built(1, 3, 2, 5, 0, 10), none}, {b, west, built(1, 3, 2, 5, 0, 11), p(1, 3, 10)}, {b, west, built(1, 3, 2, 5, 0, sky), p(1, 3, 10)},
		{b, west, built(5, 3, 9, 5, 0, 17), p(5, 3, 16)}, {b, west, built(5, 3, 9, 5, 0, 16), none}, {b, west, built(6, 3, 9, 5, 0, 18), none}, {b, west, built(6, 3, 9, 5, 0, 19), p(6, 3, 18)}, {b, west, cube(2, 3, 11), none}, {b, west, cube(2, 3, 12), p(2, 3, 12)}, {b, west, cube(2, 3, sky-1), p(2, 3, sky-1)}, {b, west, cube(0, 0, 0), none},
		{b, east, built(0, 0, 9, 2, 0, 11), p(8, 0, 10)}, {b, east, built(0, 0, 9, 2, 0, 10), none}, {b, east, built(0, 0, 10, 2, 0, 99), p(9, 0, 9)}, {b, east, built(5, 7, 30, 9, 0, 99), p(15, 7, 0)}, {b, east, built(5, 7, 15, 9, 0, 99), p(14, 7, 1)}, {b, east, built(5, 7, 15, 9, 0, 1), none},
		{b, south, built(3, 0, 5, 9, 0, 99), p(3, 0, 9)}, {b, south, built(3, 1, 5, 9, 0, 99), p(3, 1, 10)}, {b, south, built(3, 1, 5, 9, 0, 10), none}, {b, north, built(3, 0, 5, 9, 0, 99), p(3, 8, 10)}, {b, north, built(3, 0, 5, 10, 0, 99), p(3, 9, 9)}, {b, north, built(3, 0, 5, 9, 0, 10), none}, {b, north, built(3, 0, 5, 16, 0, 1), p(3, 15, 0)},
		// No slope: all cubes at a height.
		{b, flat, built(3, 4, 8, 9, 0, 5), none}, {b, flat, built(3, 4, 8, 9, 0, 6), p(3, 4, 5)}, {b, flat, built(3, 4, 8, 9, 0, 1, 7, 8, 8, 9, 0, 6), p(7, 8, 5)}, {b, planes(api.North, 0, 0, 1), built(3, 4, 8, 9, 0, 5), p(3, 4, 0)}, {b, planes(api.North, sky, 0, 1), built(0, 0, end, end, 0, sky), none},
		// The lowest cube of a solid that floats, also far above the planes.
		{b, west, built(1, 1, 3, 3, 40, 50), p(1, 1, 40)}, {b, west, built(1, 1, 3, 3, 9, 50), p(1, 1, 10)}, {b, west, built(1, 1, 3, 3, 10, 50), p(1, 1, 10)}, {b, west, built(1, 1, 3, 3, 11, 50), p(1, 1, 11)}, {b, west, built(1, 1, 3, 3, 12, 50), p(1, 1, 12)}, {b, west, built(0, 0, end, end, sky-1, sky), p(0, 0, sky-1)},
		// In the last slab, in one between, in the first one, and in a slab that has allowed cubes at this height, too.
		{b, west, built(3, 3, 9, 9, 0, 3, 4, 3, 9, 9, 3, 6, 5, 3, 9, 9, 6, 20), p(5, 3, 16)}, {b, west, built(3, 3, 9, 9, 0, 3, 1, 3, 9, 9, 3, 12, 5, 3, 9, 9, 12, 20), p(1, 3, 10)}, {b, west, built(0, 3, 9, 9, 0, 11, 1, 3, 9, 9, 11, 12), p(0, 3, 9)}, {b, west, built(3, 3, 9, 9, 0, 3, 4, 3, 9, 9, 3, 6, 0, 3, 9, 9, 9, 20), p(0, 3, 9)},
		{b, west, built(5, 4, 6, 5, 30, 31, 7, 0, 8, 1, 20, 22), p(7, 0, 20)}, {b, west, built(5, 4, 6, 5, 20, 31, 7, 0, 8, 1, 20, 22), p(5, 4, 20)}, {b, west, built(5, 4, 6, 5, 21, 31, 7, 0, 8, 1, 20, 22), p(7, 0, 20)}, {b, west, built(5, 4, 6, 5, 20, 31, 7, 0, 8, 1, 19, 22), p(7, 0, 19)},
		{b, two, built(0, 3, 2, 5, 0, 9), none}, {b, two, built(0, 3, 2, 5, 0, 10), p(0, 3, 9)}, {b, two, built(1, 1, 2, 5, 0, 10), p(1, 1, 5)}, {b, two, built(5, 4, 6, 5, 30, 31, 7, 0, 8, 1, 20, 22), p(7, 0, 20)}, {b, two, built(2, 2, 9, 9, 0, 8), p(2, 2, 7)},
		// The room at the height cuts the first column, or only a later one, of the first rectangle or of a later one.
		{b, tent, built(0, 0, 10, 10, 0, 5), p(0, 0, 4)}, {b, tent, built(1, 1, 9, 9, 0, 5), none}, {b, tent, built(1, 1, 9, 10, 0, 5), p(1, 9, 4)}, {b, tent, built(1, 0, 9, 9, 0, 5), p(1, 0, 4)}, {b, tent, built(1, 1, 10, 9, 0, 5), p(9, 1, 4)}, {b, tent, built(0, 1, 9, 9, 0, 5), p(0, 1, 4)}, {b, tent, built(1, 1, 10, 10, 0, 5), p(1, 9, 4)},
		{b, tent, built(1, 1, 3, 9, 0, 5, 3, 1, 5, 10, 0, 5), p(3, 9, 4)}, {b, tent, built(1, 1, 3, 9, 0, 5, 3, 1, 10, 2, 0, 5, 7, 0, 8, 2, 0, 5), p(7, 0, 4)}, {b, tent, built(1, 1, 10, 2, 0, 5, 1, 4, 3, 5, 0, 5), p(9, 1, 4)}, {b, tent, built(1, 1, 10, 2, 0, 5, 1, 4, 10, 5, 0, 5), p(9, 1, 4)},
		{b, tent, built(1, 1, 10, 2, 0, 5, 1, 4, 10, 5, 0, 5, 1, 8, 10, 10, 0, 5), p(1, 9, 4)}, {b, tent, built(1, 1, 10, 2, 0, 5, 1, 8, 3, 10, 0, 5), p(1, 9, 4)}, {b, tent, built(1, 1, 10, 2, 0, 4, 1, 8, 3, 10, 0, 4), none}, {b, tent, built(1, 1, 12, 2, 0, 5, 1, 8, 3, 10, 0, 5), p(11, 1, 2)},
		{b, tent, built(2, 2, 8, 8, 0, 7), p(2, 2, 6)}, {b, tent, built(4, 4, 6, 6, 0, 8), none}, {b, tent, built(4, 4, 6, 6, 0, 9), p(4, 4, 8)}, {b, tent, built(5, 5, 6, 6, 0, 9), p(5, 5, 8)},
	} {
		if c.want == none {
			checkFirst(t, []any{i, c}, c.b, c.l, c.s, api.Point3{}, false)
		} else {
			checkFirst(t, []any{i, c}, c.b, c.l, c.s, c.want, true)
		}
	}
}

// P10.3: a room may cut a cross-section into more rectangles than a region has, and solids may be as large as there are.
func TestFirstLarge(t *testing.T) {
	b := at(100, 100, 300, 300)
	tent := planes(api.West, 4, 1, 1, api.East, 4, 1, 1, api.South, 4, 1, 1, api.North, 4, 1, 1)
	wide, high := slab(0, 5, bars(200, 401)...), slab(0, 5, posts(200, 401)...)
	checkFirst(t, "bars", b, tent, []api.Slab{wide}, api.Point3{X: 0, Y: 1, Z: 0}, true)
	checkFirst(t, "posts", b, tent, []api.Slab{high}, api.Point3{X: 1, Y: 0, Z: 0}, true)
	// Only a hole in the middle is allowed at the height 4, and all of the area below it.
	low := planes(api.West, 4, 1, sky, api.East, 4, 1, sky, api.South, 4, 1, sky, api.North, 4, 1, sky)
	steep := planes(api.West, 4, 1, 1, api.East, 999, 1, 1, api.South, 4, 1, 1, api.North, 4, 1, 1)
	for i, c := range []struct {
		b    api.Rect
		l    []api.Plane
		s    api.Slab
		want api.Point3
	}{
		{b, low, wide, api.Point3{X: 0, Y: 1, Z: 3}}, {b, low, high, api.Point3{X: 1, Y: 0, Z: 3}}, {at(0, 1, 300, 300), low, wide, api.Point3{X: 0, Y: 301, Z: 3}}, {at(1, 0, 300, 300), low, high, api.Point3{X: 1, Y: 300, Z: 3}},
		{at(0, 1, 300, 400), low, wide, api.Point3{X: 300, Y: 1, Z: 3}}, {at(1, 0, 400, 300), low, high, api.Point3{X: 1, Y: 300, Z: 3}}, {at(0, 1, 401, 399), low, wide, api.Point3{X: 0, Y: 399, Z: 3}}, {at(1, 0, 399, 401), low, high, api.Point3{X: 399, Y: 0, Z: 3}},
		{at(0, 1, 401, 400), low, slab(0, 4, wide.Area...), none}, {at(0, 1, 401, 400), low, wide, api.Point3{X: 0, Y: 1, Z: 4}}, {at(1, 0, 400, 401), steep, high, api.Point3{X: 1, Y: 0, Z: 4}},
	} {
		if c.want == none {
			checkFirst(t, i, c.b, c.l, []api.Slab{c.s}, api.Point3{}, false)
		} else {
			checkFirst(t, i, c.b, c.l, []api.Slab{c.s}, c.want, true)
		}
	}
	// The largest solid under as many planes as a plan has rules: the first cube lies in each of its slabs in turn.
	var largest []api.Slab
	for i := range 80 {
		largest = append(largest, slab(50*i, 50*i+50, posts(200, 401+i%2)...))
	}
	for i, m := range largest {
		many := append(planes(api.East, m.Z0+49, 0, 1), slices.Repeat(planes(api.South, m.Z0+49, 1, 1, api.North, sky, 0, 3), 99)...)
		checkFirst(t, i, b, many, largest, api.Point3{X: 1, Y: 0, Z: max(m.Z0+49-100, 0)}, true)
		checkFirst(t, i, at(0, 0, 9, 9), many, largest, api.Point3{X: 1, Y: 0, Z: m.Z0 + 49}, true)
		checkFirst(t, i, at(0, 0, 9, 9), many, largest[:i], api.Point3{}, false)
	}
}

// P10.3: where an argument is not valid there is no first cube, and nothing is allowed, not even a solid without cubes.
func TestFirstInvalid(t *testing.T) {
	b, west, flat := at(0, 0, 10, 10), planes(api.West, 9, 3, 2), planes(api.South, 0, 0, 1)
	none := func(b api.Rect, l []api.Plane, s []api.Slab) {
		t.Helper()
		got, is := First(b, l, s)
		if got != (api.Point3{}) || is || Allows(b, l, s) {
			t.Error(b, l, s, got, is, Allows(b, l, s))
		}
	}
	for _, s := range [][]api.Slab{nil, cube(0, 0, 0), cube(5, 5, 900), built(0, 0, end, end, 0, sky), notSolids()[0]} {
		for _, wrong := range notRects() {
			none(wrong, nil, s)
			none(wrong, west, s)
			none(wrong, flat, s)
			none(wrong, notPlanes()[:1], s)
		}
		for _, wrong := range notPlanes() {
			none(b, []api.Plane{wrong}, s)
			none(b, append(planes(api.South, 0, 0, 1), wrong), s)
			none(b, append([]api.Plane{wrong}, flat...), s)
			none(b, []api.Plane{west[0], wrong, west[0]}, s)
		}
	}
	for _, wrong := range notSolids() {
		none(b, nil, wrong)
		none(b, west, wrong)
		none(b, flat, wrong)
		none(b, planes(api.North, sky, 0, 1), wrong)
		none(at(5, 5, 5, 9), flat, wrong)
		none(b, planes(4, 0, 0, 1), wrong)
	}
}
