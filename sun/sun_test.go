package sun

import (
	"fmt"
	"math"
	"slices"
	"testing"

	"greenbelt/api"
	"greenbelt/solid"
)

const (
	end  = 1048576 // 2^20
	sky  = 4096    // 2^12
	full = 1<<24 - 1
)

// at returns a point or a direction, valid or not.
func at(x, y, z int) api.Point3 { return api.Point3{X: x, Y: y, Z: z} }

// table returns the directions with the given numbers, three each, valid or not.
func table(n ...int) []api.Point3 {
	var l []api.Point3
	for ; len(n) > 0; n = n[3:] {
		l = append(l, at(n[0], n[1], n[2]))
	}
	return l
}

// rect returns a rectangle as it is written, valid or not.
func rect(x0, y0, x1, y1 int) api.Rect { return api.Rect{X0: x0, Y0: y0, X1: x1, Y1: y1} }

// slab returns a slab over some rectangles.
func slab(z0, z1 int, area ...api.Rect) api.Slab { return api.Slab{Z0: z0, Z1: z1, Area: area} }

// boxes returns the boxes with the given numbers, six each, valid or not: the base and the heights.
func boxes(n ...int) []api.Box {
	var l []api.Box
	for ; len(n) > 0; n = n[6:] {
		l = append(l, api.Box{Base: rect(n[0], n[1], n[2], n[3]), Z0: n[4], Z1: n[5]})
	}
	return l
}

// of returns the solid of some boxes.
func of(l []api.Box) []api.Slab {
	s, e := solid.Of(l)
	if e != api.OK {
		panic(fmt.Sprint("no solid: ", l))
	}
	return s
}

// built returns the solid of the boxes with the given numbers, six each.
func built(n ...int) []api.Slab { return of(boxes(n...)) }

// cubes returns the solid of the cubes with the given numbers, three each.
func cubes(n ...int) []api.Slab {
	var l []api.Box
	for ; len(n) > 0; n = n[3:] {
		l = append(l, boxes(n[0], n[1], n[0]+1, n[1]+1, n[2], n[2]+1)...)
	}
	return of(l)
}

// everything returns the solid of all cubes.
func everything() []api.Slab { return built(0, 0, end, end, 0, sky) }

// posts returns n rectangles beside each other that are one cell wide and high cells high, with a free cell before each.
func posts(n, high int) []api.Rect {
	var l []api.Rect
	for i := range n {
		l = append(l, rect(2*i+1, 0, 2*i+2, high))
	}
	return l
}

// floors returns n slabs above each other that are one cube high, with a free cube below each.
func floors(n int, area ...api.Rect) []api.Slab {
	var l []api.Slab
	for i := range n {
		l = append(l, slab(2*i+1, 2*i+2, area...))
	}
	return l
}

// far has numbers that are far from any coordinate.
func far() []int {
	return []int{1 << 32, 1<<32 + 1, -1 << 32, 1 - 1<<32, 1 << 40, -1 << 40, 1<<62 + 5, math.MinInt, math.MinInt + 1, math.MaxInt - 1, math.MaxInt}
}

// notSolids has lists of slabs that are no solid, each for another reason.
func notSolids() [][]api.Slab {
	r, s := rect(0, 0, 1, 1), slab(50, 51, rect(3, 3, 4, 4))
	return [][]api.Slab{
		{slab(50, 50, r)}, {slab(51, 50, r)}, {slab(-1, 51, r)}, {slab(50, sky+1, r)}, {slab(math.MinInt, math.MaxInt, r)}, {slab(50, math.MinInt, r)}, {slab(50, 51)},
		{slab(50, 51, rect(0, 0, 0, 1))}, {slab(50, 51, rect(0, 0, 1, 0))}, {slab(50, 51, rect(1, 1, 0, 0))}, {slab(50, 51, rect(-1, 0, 1, 1))}, {slab(50, 51, rect(0, -1, 1, 1))}, {slab(50, 51, rect(0, 0, end+1, 1))}, {slab(50, 51, rect(0, 0, 1, end+1))}, {slab(50, 51, rect(math.MinInt, math.MinInt, math.MaxInt, math.MaxInt))},
		{slab(50, 51, r, r)}, {slab(50, 51, r, rect(1, 0, 2, 1))}, {slab(50, 51, r, rect(0, 1, 1, 2))}, {slab(50, 51, rect(1, 0, 2, 1), rect(0, 0, 1, 2))}, {slab(50, 51, rect(0, 0, 2, 2), rect(1, 1, 3, 3))}, {slab(50, 51, append([]api.Rect{r}, posts(201, 1)[1:]...)...)},
		{s, s}, {s, slab(51, 52, rect(3, 3, 4, 4))}, {s, slab(40, 41, r)}, {s, slab(50, 52, r)}, {slab(40, 51, r), s}, {s, slab(60, 61)}, {slab(2, 3), s}, {s, slab(60, 60, r)}, {s, slab(60, sky+1, r)}, {s, slab(60, 61, rect(0, 0, 0, 0))}, {{}}, {s, {}},
		floors(81, r), append(floors(2000, r), s), {slab(50, 51, append(posts(100000, 3), r)...)},
	}
}

// notPoints has points that are not valid: one of the numbers of each is out of its range, or all are.
func notPoints() []api.Point3 {
	l := table(-1, -1, -1, end+1, end+1, sky+1, math.MinInt, math.MinInt, math.MinInt, math.MaxInt, math.MaxInt, math.MaxInt, 0, 0, end, 5, 5, sky+1, 5, 5, sky+2, 5, 5, 2*sky)
	for _, n := range append(far(), -1, -2, -end, end+1, end+2, 2*end) {
		l = append(l, at(n, 5, 5), at(5, n, 5), at(5, 5, n), at(n, 0, 0), at(0, n, 0), at(0, 0, n))
	}
	return l
}

// notDirections has directions that may not stand in a table: one of the numbers of each is out of its range, or more are.
func notDirections() []api.Point3 {
	l := table(0, 0, 0, 0, 0, -1, 1, 1, 0, sky, sky, 0, -1, -1, -1, sky+1, sky+1, sky+1, math.MinInt, math.MinInt, math.MinInt, math.MaxInt, math.MaxInt, math.MaxInt)
	for _, n := range append(far(), sky+1, sky+2, 2*sky, end, -sky-1, -sky-2, -2*sky, -end) {
		l = append(l, at(n, 5, 5), at(5, n, 5), at(5, 5, n), at(n, 0, 1), at(0, n, 1), at(0, 0, n), at(n, -5, sky), at(-5, n, sky), at(-5, -5, n))
	}
	for _, z := range []int{0, -1, -2, -sky} {
		l = append(l, at(5, 5, z), at(1, 0, z), at(0, -1, z), at(-sky, sky, z))
	}
	return l
}

// around has 24 directions: those from the middle of a square of 5 by 5 to its other cells, and one up.
func around() []api.Point3 {
	var l []api.Point3
	for n := range 25 {
		if x, y := n%5-2, n/5-2; x != 0 || y != 0 {
			l = append(l, at(x, y, 1+n%2))
		}
	}
	l[7] = at(0, 0, 1)
	return l
}

// times returns a table in which one direction stands n times.
func times(n int, d api.Point3) []api.Point3 { return slices.Repeat([]api.Point3{d}, n) }

// notTables has tables that are not valid: directions of which only the first one, only one within, or only the last one
// may not stand in a table, or too many directions.
func notTables() [][]api.Point3 {
	var l [][]api.Point3
	for _, d := range notDirections() {
		l = append(l, []api.Point3{d}, []api.Point3{d, at(0, 0, 1)}, []api.Point3{at(0, 0, 1), d}, []api.Point3{at(1, 1, 1), d, at(0, 0, 1)}, []api.Point3{d, d})
		for _, i := range []int{0, 13, 23} {
			long := around()
			long[i] = d
			l = append(l, long)
		}
	}
	for _, n := range []int{25, 26, 32, 62, 63, 64, 65, 100000} {
		l = append(l, times(n, at(0, 0, 1)), times(n, at(sky, -sky, sky)), times(n, at(0, 0, 0)))
	}
	return l
}

// P12.1: tables of all lengths, with directions up to the limits.
func TestRight(t *testing.T) {
	sizes := []int{-sky, 1 - sky, -2, -1, 0, 1, 2, sky - 1, sky}
	for n := range 25 {
		l := times(n, at(0, 0, 1))
		if !Right(l) {
			t.Error(n)
		}
		for i := range l {
			for _, d := range table(sky, 0, 1, -sky, 0, 1, 0, sky, 1, 0, -sky, 1, 0, 0, sky, sky, sky, sky, -sky, -sky, 1) {
				l[i] = d
				if !Right(l) {
					t.Error(l)
				}
			}
		}
	}
	for _, x := range sizes {
		for _, y := range sizes {
			for _, z := range []int{1, 2, 3, 2048, sky - 1, sky} {
				if !Right(table(x, y, z)) || !Right(table(0, 0, 1, x, y, z, x, y, z)) {
					t.Error(x, y, z)
				}
			}
		}
	}
	if !Right(nil) || !Right([]api.Point3{}) || !Right(around()) {
		t.Error("none, or all")
	}
	for _, l := range notTables() {
		if Right(l) {
			t.Error(len(l), l[:min(len(l), 24)])
		}
	}
}

// P12.1: Count asks for the elements one by one, and the sign bit is none.
func TestCount(t *testing.T) {
	for mask, n := range map[int]int{
		0: 0, -1: 63, -2: 62, -3: 62, -4: 61, 1: 1, 2: 1, 3: 2, 7: 3, 0b1011_0001: 4, full: 24, 1<<62 - 1: 62,
		math.MinInt: 0, math.MinInt + 1: 1, math.MinInt + 6: 2, math.MinInt + full: 24, math.MaxInt: 63, math.MaxInt - 1: 62, math.MaxInt - 6: 61, -1 << 62: 1, -1 << 61: 2, -1 << 32: 31, -1 << 31: 32, 1<<32 - 1: 32,
	} {
		if Count(mask) != n {
			t.Error(mask, Count(mask), n)
		}
	}
	for i := range 63 {
		if Count(1<<i) != 1 || Count(1<<i-1) != i || Count(-1<<i) != 63-i || Count(math.MinInt+1<<i) != 1 || Count(^(1<<i)) != 62 || Count(math.MaxInt-1<<i) != 62 {
			t.Error(i)
		}
		for j := range i {
			if Count(1<<i+1<<j) != 2 || Count(math.MinInt+1<<i+1<<j) != 2 || Count(^(1<<i+1<<j)) != 61 {
				t.Error(i, j)
			}
		}
	}
}

// check fails the test unless all functions say of one solid that the sun reaches a point in the directions of a mask.
func check(t *testing.T, name any, l []api.Point3, s []api.Slab, p api.Point3, mask int) {
	t.Helper()
	hours, all := 0, 1<<len(l)-1
	for i := range l {
		hours += mask >> i & 1
	}
	if got := Mask(l, s, p); got != mask {
		t.Errorf("%v: Mask %b, not %b", name, got, mask)
	}
	if got := Hours(l, s, p); got != hours {
		t.Error(name, "Hours", got, hours)
	}
	for i, list := range [][][]api.Slab{{s}, {s, s}, {nil, s}, {s, {}}} {
		if got := MaskOf(l, list, p); got != mask {
			t.Errorf("%v: MaskOf %v %b, not %b", name, i, got, mask)
		}
	}
	if got := Lost(l, nil, s, p); got != all-mask {
		t.Errorf("%v: Lost %b, not the complement of %b", name, got, mask)
	}
	if Lost(l, s, s, p) != 0 || Lost(l, s, nil, p) != 0 {
		t.Error(name, "Lost by the same, or by nothing")
	}
	if got := Lost(l, everything(), s, p); got != 0 {
		t.Errorf("%v: Lost %b, but all cubes block as much", name, got)
	}
}

// P12.2, P12.3: the examples of the chapter.
func TestExamples(t *testing.T) {
	l, s := table(1, 0, 1, 0, 0, 1, -1, 0, 1), built(2, 0, 3, 1, 0, 3)
	check(t, "west of it", l, s, at(0, 0, 0), 6)
	check(t, "east of it", l, s, at(4, 0, 0), 3)
	check(t, "in it", l, s, at(2, 0, 1), 4)
	check(t, "on it", l, s, at(2, 0, 3), 7)
	if Mask(l, s, at(0, 0, 0)) != 6 || Hours(l, s, at(0, 0, 0)) != 2 || Mask(l, s, at(4, 0, 0)) != 3 || Mask(l, s, at(2, 0, 1)) != 4 || Mask(l, s, at(2, 0, 3)) != 7 {
		t.Error("Mask")
	}
	if MaskOf(l, [][]api.Slab{s, {}}, at(0, 0, 0)) != 6 || MaskOf(l, nil, at(0, 0, 0)) != 7 || MaskOf(l, [][]api.Slab{}, at(0, 0, 0)) != 7 || Lost(l, nil, s, at(0, 0, 0)) != 1 || Lost(l, []api.Slab{}, s, at(0, 0, 0)) != 1 {
		t.Error("MaskOf, or Lost")
	}
}

// P12.2: points inside of a cube, on its faces, edges and corners, on top of it, below and beside it. The directions go east,
// up, west, north and south, and to the four corners.
func TestMaskPoints(t *testing.T) {
	const e, u, w, n, s, en, wn, ws, es = 1, 2, 4, 8, 16, 32, 64, 128, 256
	l := table(1, 0, 1, 0, 0, 1, -1, 0, 1, 0, 1, 1, 0, -1, 1, 1, 1, 1, -1, 1, 1, -1, -1, 1, 1, -1, 1)
	one, three := cubes(5, 6, 7), built(4, 4, 7, 7, 4, 7)
	for i, c := range []struct {
		s    []api.Slab
		p    api.Point3
		lost int
	}{
		// The corners of the cube: its own ones, from which the sun comes through it, are below.
		{one, at(5, 6, 7), e + u + n + en}, {one, at(6, 6, 7), w + wn}, {one, at(5, 7, 7), s + es}, {one, at(6, 7, 7), ws}, {one, at(5, 6, 8), 0}, {one, at(6, 6, 8), 0}, {one, at(5, 7, 8), 0}, {one, at(6, 7, 8), 0},
		// Below it, and where the sun comes past one edge or corner that belongs to it.
		{one, at(5, 6, 6), u}, {one, at(5, 6, 5), u}, {one, at(5, 6, 0), u}, {one, at(4, 6, 6), e}, {one, at(3, 6, 5), e}, {one, at(5, 5, 6), n}, {one, at(4, 5, 6), en}, {one, at(3, 4, 5), en}, {one, at(6, 6, 6), w}, {one, at(7, 6, 6), w}, {one, at(7, 6, 5), w}, {one, at(5, 7, 6), s}, {one, at(6, 7, 6), ws}, {one, at(7, 8, 6), ws}, {one, at(7, 8, 5), ws}, {one, at(4, 7, 6), es}, {one, at(6, 5, 6), wn},
		// Beside it at the same height, over it, and where the sun comes just past it.
		{one, at(4, 6, 7), 0}, {one, at(5, 5, 7), 0}, {one, at(7, 6, 7), 0}, {one, at(5, 8, 7), 0}, {one, at(4, 5, 7), 0}, {one, at(5, 6, 9), 0}, {one, at(4, 6, 5), 0}, {one, at(4, 6, 8), 0}, {one, at(3, 6, 6), 0}, {one, at(8, 6, 6), 0}, {one, at(8, 6, 5), w}, {one, at(8, 6, 4), w}, {one, at(9, 6, 4), w}, {one, at(6, 8, 6), 0}, {one, at(0, 0, 0), 0}, {one, at(0, 1, 2), en}, {one, at(0, 6, 2), e},
		// The inside of a larger one, its faces, edges and corners.
		{three, at(5, 5, 5), 511}, {three, at(6, 6, 6), 511}, {three, at(4, 5, 5), 511 - w - wn - ws}, {three, at(5, 4, 5), 511 - s - ws - es}, {three, at(5, 5, 4), 511}, {three, at(7, 5, 5), w + wn + ws}, {three, at(5, 7, 5), s + ws + es}, {three, at(5, 5, 7), 0}, {three, at(5, 5, 8), 0}, {three, at(5, 5, 3), 511},
		{three, at(4, 4, 5), e + u + n + en}, {three, at(4, 7, 5), s + es}, {three, at(7, 4, 5), w + wn}, {three, at(7, 7, 5), ws}, {three, at(4, 5, 4), 511 - w - wn - ws}, {three, at(7, 5, 4), w + wn + ws}, {three, at(5, 4, 4), 511 - s - ws - es}, {three, at(5, 7, 4), s + ws + es}, {three, at(4, 5, 7), 0}, {three, at(7, 5, 7), 0}, {three, at(7, 7, 6), ws}, {three, at(7, 5, 6), w + wn + ws},
		{three, at(4, 4, 4), e + u + n + en}, {three, at(7, 7, 4), ws}, {three, at(4, 4, 7), 0}, {three, at(7, 7, 7), 0}, {three, at(4, 4, 3), e + u + n + en}, {three, at(7, 7, 3), ws}, {three, at(6, 6, 3), 511 - e - n - en - wn - es}, {three, at(5, 5, 0), u}, {three, at(5, 5, 1), u},
		// Nothing, and what is between two cubes.
		{nil, at(5, 6, 7), 0}, {cubes(0, 1, 0, 1, 0, 0), at(0, 0, 0), 0}, {cubes(0, 0, 0, 1, 1, 1), at(0, 0, 0), e + u + n + en}, {cubes(1, 1, 1), at(0, 0, 0), en}, {cubes(1, 0, 1, 0, 1, 1), at(0, 0, 0), e + n}, {cubes(0, 0, 1), at(2, 2, 0), ws}, {cubes(0, 0, 1), at(1, 1, 0), ws}, {cubes(1, 0, 1, 0, 1, 1), at(2, 2, 0), 0}, {cubes(1, 0, 0, 0, 1, 0), at(2, 2, 0), 0}, {cubes(1, 1, 0), at(2, 2, 0), ws},
	} {
		check(t, i, l, c.s, c.p, 511-c.lost)
	}
}

// P12.2: all directions have their own elements, whatever their place is, and one that stands twice has two.
func TestMaskElements(t *testing.T) {
	l, p := around(), at(90, 90, 0)
	for i, d := range l {
		s := cubes(90+3*d.X, 90+3*d.Y, 3*d.Z)
		check(t, i, l, s, p, full-1<<i)
		check(t, i, l[:i+1], s, p, 1<<i-1)
		check(t, i, l[:i], s, p, 1<<i-1)
		check(t, i, l[i:], s, p, full>>i-1)
		check(t, i, append(slices.Clone(l[:i]), l[i+1:]...), s, p, full>>1)
		twice := slices.Clone(l)
		twice[(i+5)%24] = d
		check(t, i, twice, s, p, full-1<<i-1<<((i+5)%24))
		check(t, i, times(24, d), s, p, 0)
		check(t, i, times(24, l[(i+1)%24]), s, p, full)
		check(t, i, times(1, d), s, p, 0)
	}
	check(t, "around", l, built(88, 88, 93, 93, 1, 2, 80, 80, 101, 101, 2, 4), p, 0)
	check(t, "nothing", nil, nil, p, 0)
	check(t, "nothing", []api.Point3{}, everything(), p, 0)
}

// P12.2: directions of the greatest and the least sizes, to the corners of the grid, to the lowest and the highest cubes.
func TestMaskCorners(t *testing.T) {
	low, high, last := cubes(0, 0, 0), cubes(0, 0, sky-1), cubes(end-1, end-1, sky-1)
	flat := table(sky, 0, 1, 0, sky, 1, -sky, 0, 1, 0, -sky, 1, sky, sky, 1, -sky, -sky, 1)
	steep := table(0, 0, 1, 0, 0, sky, 1, 0, sky, 0, 1, sky, -1, 0, sky, 0, -1, sky, 1, 1, sky, sky, sky, sky, -1, -1, 1)
	for i, c := range []struct {
		l    []api.Point3
		s    []api.Slab
		p    api.Point3
		lost int
	}{
		{flat, low, at(0, 0, 0), 1 + 2 + 16}, {flat, low, at(1, 0, 0), 4}, {flat, low, at(0, 1, 0), 8}, {flat, low, at(sky-1, 0, 0), 4}, {flat, low, at(0, sky-1, 0), 8}, {flat, low, at(sky, 0, 0), 4}, {flat, low, at(sky+1, 0, 0), 0}, {flat, low, at(1, 1, 0), 32}, {flat, low, at(sky-1, sky-1, 0), 32}, {flat, low, at(sky, sky, 0), 32}, {flat, low, at(sky+1, sky+1, 0), 0}, {flat, low, at(0, 0, 1), 0}, {flat, low, at(end, end, sky), 0},
		{flat, cubes(sky-1, 0, 0), at(0, 0, 0), 1}, {flat, cubes(sky, 0, 0), at(0, 0, 0), 0}, {flat, cubes(sky, 0, 1), at(0, 0, 0), 1}, {flat, cubes(0, sky, 1), at(0, 0, 0), 2}, {flat, cubes(0, sky, 0), at(0, 0, 0), 0}, {flat, cubes(end-1, 0, 255), at(0, 0, 0), 1}, {flat, cubes(end-1, 0, 256), at(0, 0, 0), 0}, {flat, cubes(0, end-1, 255), at(0, 0, 0), 2}, {flat, cubes(end-1, end-1, 255), at(0, 0, 0), 16}, {flat, cubes(0, 0, 256), at(end, 0, 0), 4}, {flat, cubes(0, 0, 255), at(end, 0, 0), 4}, {flat, cubes(0, 0, 255), at(end, 0, 1), 0}, {flat, cubes(0, 0, 257), at(end, 0, 0), 0}, {flat, cubes(0, 0, 256), at(0, end, 0), 8}, {flat, cubes(0, 0, 256), at(end, end, 0), 32}, {flat, last, at(end, end, sky-1), 32}, {flat, last, at(end-1, end-1, sky-1), 1 + 2 + 16}, {flat, last, at(end-1, end-1, sky), 0}, {flat, last, at(end, end, sky), 0}, {flat, last, at(0, end-1, sky-256), 1}, {flat, last, at(0, end-1, sky-255), 0}, {flat, last, at(end-1, 0, sky-256), 2}, {flat, last, at(0, 0, sky-256), 16}, {flat, last, at(0, 0, sky-257), 0},
		{steep, low, at(0, 0, 0), 1 + 2 + 4 + 8 + 64 + 128}, {steep, low, at(1, 0, 0), 16}, {steep, low, at(0, 1, 0), 32}, {steep, low, at(1, 1, 0), 256}, {steep, low, at(0, 0, 1), 0}, {steep, high, at(0, 0, 0), 1 + 2 + 4 + 8 + 64}, {steep, high, at(0, 0, sky-1), 1 + 2 + 4 + 8 + 64 + 128}, {steep, high, at(0, 0, sky), 0}, {steep, high, at(1, 0, 0), 16}, {steep, high, at(0, 1, 0), 32}, {steep, high, at(1, 1, sky-1), 256}, {steep, high, at(2, 0, 0), 0}, {steep, cubes(1, 0, sky-1), at(0, 0, 0), 0}, {steep, cubes(1, 1, sky-1), at(0, 0, 0), 0}, {steep, cubes(sky-1, sky-1, sky-1), at(0, 0, 0), 128}, {steep, cubes(sky, sky, sky-1), at(0, 0, 0), 0},
		{steep, last, at(end-1, end-1, 0), 1 + 2 + 4 + 8 + 64}, {steep, last, at(end, end, sky-1), 256}, {steep, last, at(end, end, sky-2), 256}, {steep, last, at(end+1-sky, end+1-sky, 0), 0}, {steep, last, at(end-sky, end-sky, 0), 128}, {steep, last, at(end, end-1, 0), 16}, {steep, last, at(end-1, end, 0), 32}, {steep, last, at(end, end, 0), 0},
		{steep, everything(), at(0, 0, 0), 1 + 2 + 4 + 8 + 64 + 128}, {steep, everything(), at(end, end, 0), 256}, {steep, everything(), at(end, 0, 0), 16}, {steep, everything(), at(0, end, 0), 32}, {steep, everything(), at(5, 5, sky-1), 511}, {steep, everything(), at(5, 5, sky), 0}, {steep, everything(), at(end, 5, 5), 16 + 256}, {steep, everything(), at(5, end, 5), 32 + 256},
	} {
		check(t, i, c.l, c.s, c.p, 1<<len(c.l)-1-c.lost)
	}
}

// P12.2, P12.3: all valid points are taken, up to the corners of the grid, and no others; there each function returns 0.
func TestPoints(t *testing.T) {
	l := around()
	roof, wrong, none := built(0, 0, end, end, sky-1, sky), notSolids()[0], notTables()[0]
	for _, x := range []int{0, 1, 2, end / 2, end - 1, end} {
		for _, y := range []int{0, 1, 2, end / 2, end - 1, end} {
			for _, z := range []int{0, 1, 2, sky / 2, sky - 1, sky} {
				p := at(x, y, z)
				if Mask(l, nil, p) != full || Hours(l, nil, p) != 24 || MaskOf(l, nil, p) != full || MaskOf(l, [][]api.Slab{nil}, p) != full || Lost(l, nil, nil, p) != 0 {
					t.Error(p)
				}
				// The eighth direction goes straight up.
				covered := x < end && y < end && z < sky
				if is := Lost(l, nil, roof, p)>>7&1 == 1; is != covered || is == (Mask(l, roof, p)>>7&1 == 1) {
					t.Error(p, covered)
				}
			}
		}
	}
	for _, p := range notPoints() {
		for _, s := range [][]api.Slab{nil, roof, cubes(5, 5, 5), everything(), wrong} {
			if Mask(l, s, p) != 0 || Hours(l, s, p) != 0 || MaskOf(l, [][]api.Slab{s}, p) != 0 || MaskOf(l, [][]api.Slab{s, nil}, p) != 0 || MaskOf(l, nil, p) != 0 || Lost(l, nil, s, p) != 0 || Lost(l, s, roof, p) != 0 {
				t.Error(p, s)
			}
		}
		if Mask(nil, nil, p) != 0 || MaskOf(none, nil, p) != 0 {
			t.Error(p, "without a table")
		}
	}
}

// P12.2, P12.3: no function finds sun, or loses any, by a table that is not valid.
func TestNotTables(t *testing.T) {
	s, p := cubes(5, 5, 5), at(5, 5, 5)
	for _, l := range notTables() {
		if Mask(l, nil, p) != 0 || Mask(l, s, p) != 0 || Hours(l, nil, p) != 0 || Hours(l, s, p) != 0 || MaskOf(l, nil, p) != 0 || MaskOf(l, [][]api.Slab{nil, s}, p) != 0 || Lost(l, nil, s, p) != 0 || Lost(l, nil, nil, p) != 0 || Lost(l, s, nil, p) != 0 {
			t.Error(len(l), l[:min(len(l), 24)])
		}
	}
}

// P12.2, P12.3: no function finds sun, or loses any, past a list that is no solid, wherever it stands.
func TestNotSolids(t *testing.T) {
	l, s, other := around(), cubes(5, 5, 5), cubes(5, 6, 5)
	for i, wrong := range notSolids() {
		for _, p := range table(0, 0, 0, 5, 5, 5, 5, 5, 4, 4, 4, 51, 1, 1, 61, end, end, sky, 0, 0, sky) {
			if Mask(l, wrong, p) != 0 || Hours(l, wrong, p) != 0 || Mask(nil, wrong, p) != 0 {
				t.Error(i, p)
			}
			for _, list := range [][][]api.Slab{{wrong}, {wrong, s}, {s, wrong}, {wrong, nil}, {nil, wrong}, {wrong, s, other}, {s, wrong, other}, {s, other, wrong}, {nil, wrong, nil}, {wrong, wrong}, {everything(), wrong}, {wrong, everything()}} {
				if MaskOf(l, list, p) != 0 {
					t.Error(i, p, "MaskOf")
				}
			}
			for _, right := range [][]api.Slab{nil, s, everything()} {
				if Lost(l, wrong, right, p) != 0 || Lost(l, right, wrong, p) != 0 {
					t.Error(i, p, "Lost")
				}
			}
			if Lost(l, wrong, wrong, p) != 0 {
				t.Error(i, p, "Lost, both")
			}
		}
	}
}

// P12.3: MaskOf leaves the directions that no solid of a list blocks.
func TestMaskOf(t *testing.T) {
	l, p := table(1, 0, 1, 0, 1, 1, 0, 0, 1, -1, -1, 1), at(10, 10, 0)
	east, north, up, back := cubes(12, 10, 2), built(10, 12, 11, 15, 0, 9), cubes(10, 10, 1), built(0, 0, 9, 9, 0, 9)
	wrong := notSolids()[0]
	for i, c := range []struct {
		list [][]api.Slab
		want int
	}{
		{nil, 15}, {[][]api.Slab{}, 15}, {[][]api.Slab{nil}, 15}, {[][]api.Slab{{}, nil, {}}, 15}, {[][]api.Slab{east}, 14}, {[][]api.Slab{north}, 13}, {[][]api.Slab{up}, 11}, {[][]api.Slab{back}, 7},
		{[][]api.Slab{east, east}, 14}, {[][]api.Slab{east, north}, 12}, {[][]api.Slab{north, east}, 12}, {[][]api.Slab{up, back}, 3}, {[][]api.Slab{back, nil, up}, 3}, {[][]api.Slab{east, north, up}, 8}, {[][]api.Slab{back, east, north}, 4}, {[][]api.Slab{east, north, east, back}, 4}, {[][]api.Slab{east, up, back, north}, 0}, {[][]api.Slab{east, up, back, north, nil, east}, 0}, {[][]api.Slab{everything()}, 0}, {[][]api.Slab{everything(), east}, 0}, {[][]api.Slab{north, everything()}, 0},
	} {
		if got := MaskOf(l, c.list, p); got != c.want {
			t.Errorf("%v: %b, not %b", i, got, c.want)
		}
		if MaskOf(l, c.list, at(10, 10, sky)) != 15 || MaskOf(l, append(slices.Clone(c.list), wrong), p) != 0 || MaskOf(l, slices.Insert(slices.Clone(c.list), 0, wrong), p) != 0 || MaskOf(nil, c.list, p) != 0 {
			t.Error(i)
		}
	}
}

// P12.3: Lost says what b takes away of what a leaves, and not the other way round.
func TestLost(t *testing.T) {
	l, p := table(1, 0, 1, 0, 1, 1, 0, 0, 1, -1, -1, 1), at(10, 10, 0)
	east, north, both := cubes(12, 10, 2), built(10, 12, 11, 15, 0, 9), built(12, 10, 13, 11, 2, 3, 10, 12, 11, 15, 0, 9)
	for i, c := range []struct {
		a, b []api.Slab
		want int
	}{
		{nil, nil, 0}, {nil, east, 1}, {east, nil, 0}, {nil, north, 2}, {nil, both, 3}, {east, both, 2}, {north, both, 1}, {both, east, 0}, {both, north, 0}, {east, north, 2}, {north, east, 1}, {both, both, 0}, {both, everything(), 12}, {nil, everything(), 15}, {everything(), nil, 0}, {everything(), everything(), 0}, {[]api.Slab{}, []api.Slab{}, 0},
	} {
		if got := Lost(l, c.a, c.b, p); got != c.want {
			t.Errorf("%v: %b, not %b", i, got, c.want)
		}
		if Lost(l, c.a, c.b, at(10, 10, sky)) != 0 || Lost(nil, c.a, c.b, p) != 0 || Lost(l, c.a, c.b, at(10, 10, -1)) != 0 {
			t.Error(i)
		}
	}
}

// P12.2: solids as large as there are, from and between the posts of several slabs.
func TestLargest(t *testing.T) {
	var s []api.Slab
	for i := range 80 {
		s = append(s, slab(51*i, 51*i+50, posts(200, 401+i%2)...))
	}
	if !solid.Right(s) {
		t.Fatal("no solid")
	}
	const up, east, west, south, flatSouth, flatEast, north, all = 1, 2, 4, 8, 16, 32, 64, 127
	l := table(0, 0, 1, 1, 0, sky, -1, 0, sky, 0, -1, 1, 0, -sky, 1, sky, 0, 1, 0, 1, 1)
	for _, i := range []int{0, 1, 28, 53, 78, 79} {
		n := (i*7 + 3) % 200
		m, r := s[i], s[i].Area[n]
		// No slab is above the last one, and no post is east of the last one.
		above, next := west, flatEast
		if i == 79 {
			above = 0
		}
		if n == 199 {
			next = 0
		}
		for _, c := range []struct {
			p    api.Point3
			lost int
		}{
			{at(r.X0, 5, m.Z0), all - west}, {at(r.X1, 5, m.Z0), west + next}, {at(r.X1, 0, m.Z1), above}, {at(r.X0, 450, m.Z0), south + flatSouth}, {at(r.X1, 450, m.Z0), 0}, {at(r.X0, 5, 51*79+50), 0},
		} {
			if got := Mask(l, s, c.p); got != all-c.lost {
				t.Errorf("%v %v: %b, not %b", i, c.p, got, all-c.lost)
			}
		}
		if got := MaskOf(l, [][]api.Slab{s[:i], s[i:]}, at(r.X0, 5, m.Z0)); got != west {
			t.Errorf("%v: %b", i, got)
		}
		if got := Lost(l, s[:i], s, at(r.X0, 5, m.Z0)); got != all-west {
			t.Errorf("%v: lost %b", i, got)
		}
	}
}
