package sight

import (
	"fmt"
	"math"
	"testing"

	"greenbelt/api"
	"greenbelt/solid"
)

const (
	end = 1048576 // 2^20
	sky = 4096    // 2^12
)

// at returns a point or a direction, valid or not.
func at(x, y, z int) api.Point3 { return api.Point3{X: x, Y: y, Z: z} }

// rect returns a rectangle as it is written, valid or not.
func rect(x0, y0, x1, y1 int) api.Rect { return api.Rect{X0: x0, Y0: y0, X1: x1, Y1: y1} }

// slab returns a slab over some rectangles.
func slab(z0, z1 int, area ...api.Rect) api.Slab { return api.Slab{Z0: z0, Z1: z1, Area: area} }

// boxes returns the boxes with the given numbers, six each, valid or not: the base and the heights.
func boxes(n ...int) []api.Box {
	var l []api.Box
	for ; len(n) > 0; n = n[6:] {
		l = append(l, api.Box{Base: rect(n[0], n[1], n[2], n[3]), Z0: n[4], Z1: n[5]})
	}
	return l
}

// of returns the solid of some boxes.
func of(l []api.Box) []api.Slab {
	s, e := solid.Of(l)
	if e != api.OK {
		panic(fmt.Sprint("no solid: ", l))
	}
	return s
}

// built returns the solid of the boxes with the given numbers, six each.
func built(n ...int) []api.Slab { return of(boxes(n...)) }

// cube returns the solid of one cube.
func cube(x, y, z int) []api.Slab { return built(x, y, x+1, y+1, z, z+1) }

// cubes returns the solid of the cubes with the given numbers, three each.
func cubes(n ...int) []api.Slab {
	var l []api.Box
	for ; len(n) > 0; n = n[3:] {
		l = append(l, boxes(n[0], n[1], n[0]+1, n[1]+1, n[2], n[2]+1)...)
	}
	return of(l)
}

// everything returns the solid of all cubes.
func everything() []api.Slab { return built(0, 0, end, end, 0, sky) }

// posts returns n rectangles beside each other that are one cell wide and high cells high, with a free cell before each.
func posts(n, high int) []api.Rect {
	var l []api.Rect
	for i := range n {
		l = append(l, rect(2*i+1, 0, 2*i+2, high))
	}
	return l
}

// floors returns n slabs above each other that are one cube high, with a free cube below each.
func floors(n int, area ...api.Rect) []api.Slab {
	var l []api.Slab
	for i := range n {
		l = append(l, slab(2*i+1, 2*i+2, area...))
	}
	return l
}

// notSolids has lists of slabs that are no solid, each for another reason. All of them have a slab over the cell (0, 0) or
// (3, 3), or one that would have cubes there if it were read carelessly.
func notSolids() [][]api.Slab {
	r, s := rect(0, 0, 1, 1), slab(50, 51, rect(3, 3, 4, 4))
	return [][]api.Slab{
		{slab(50, 50, r)}, {slab(51, 50, r)}, {slab(-1, 51, r)}, {slab(50, sky+1, r)}, {slab(math.MinInt, math.MaxInt, r)}, {slab(50, math.MinInt, r)}, {slab(50, 51)},
		{slab(50, 51, rect(0, 0, 0, 1))}, {slab(50, 51, rect(0, 0, 1, 0))}, {slab(50, 51, rect(1, 1, 0, 0))}, {slab(50, 51, rect(-1, 0, 1, 1))}, {slab(50, 51, rect(0, -1, 1, 1))}, {slab(50, 51, rect(0, 0, end+1, 1))}, {slab(50, 51, rect(0, 0, 1, end+1))}, {slab(50, 51, rect(math.MinInt, math.MinInt, math.MaxInt, math.MaxInt))},
		{slab(50, 51, r, r)}, {slab(50, 51, r, rect(1, 0, 2, 1))}, {slab(50, 51, r, rect(0, 1, 1, 2))}, {slab(50, 51, rect(1, 0, 2, 1), rect(0, 0, 1, 2))}, {slab(50, 51, rect(0, 0, 2, 2), rect(1, 1, 3, 3))}, {slab(50, 51, append([]api.Rect{r}, posts(201, 1)[1:]...)...)},
		{s, s}, {s, slab(51, 52, rect(3, 3, 4, 4))}, {s, slab(40, 41, r)}, {s, slab(50, 52, r)}, {slab(40, 51, r), s}, {s, slab(60, 61)}, {slab(2, 3), s}, {s, slab(60, 60, r)}, {s, slab(60, sky+1, r)}, {s, slab(60, 61, rect(0, 0, 0, 0))}, {{}}, {s, {}},
		floors(81, r), append(floors(2000, r), s), {slab(50, 51, append(posts(100000, 3), r)...)},
	}
}

// far has numbers that are far from any coordinate.
func far() []int {
	return []int{1 << 32, 1<<32 + 1, -1 << 32, 1 - 1<<32, 1 << 40, -1 << 40, 1<<62 + 5, math.MinInt, math.MinInt + 1, math.MaxInt - 1, math.MaxInt}
}

// notPoints has points that are not valid: one of the numbers of each is out of its range, or all are.
func notPoints() []api.Point3 {
	l := []api.Point3{at(-1, -1, -1), at(end+1, end+1, sky+1), at(math.MinInt, math.MinInt, math.MinInt), at(math.MaxInt, math.MaxInt, math.MaxInt), at(0, 0, end), at(5, 5, sky+1), at(5, 5, sky+2)}
	for _, n := range append(far(), -1, -2, -end, end+1, end+2, 2*end) {
		l = append(l, at(n, 5, 5), at(5, n, 5), at(5, 5, n), at(n, 0, 0), at(0, n, 0), at(0, 0, n))
	}
	return l
}

// notDirections has directions that are not valid: all numbers are 0, or at least one is out of its range.
func notDirections() []api.Point3 {
	l := []api.Point3{{}, at(end+1, end+1, end+1), at(math.MinInt, math.MinInt, math.MinInt), at(math.MaxInt, math.MaxInt, math.MaxInt)}
	for _, n := range append(far(), end+1, end+2, 2*end, -end-1, -end-2, -2*end) {
		l = append(l, at(n, 5, 5), at(5, n, 5), at(5, 5, n), at(n, 0, 0), at(0, n, 0), at(0, 0, n), at(n, -5, -5), at(-5, n, -5), at(-5, -5, n))
	}
	return l
}

// blocking is a row of a table of segments.
type blocking struct {
	s    []api.Slab
	p, q api.Point3
	want bool
}

// checkBlocked fails the test unless Blocked says what is wanted of the segments of a table, in both directions.
func checkBlocked(t *testing.T, l []blocking) {
	t.Helper()
	for i, c := range l {
		if Blocked(c.s, c.p, c.q) != c.want || Blocked(c.s, c.q, c.p) != c.want {
			t.Error(i, c)
		}
	}
}

// P11.1: segments along one axis, whose t are the ones of one coordinate only.
func TestBlockedAlong(t *testing.T) {
	s, c, big := cube(2, 0, 0), cube(5, 6, 7), built(10, 20, 30, 50, 3, 9)
	checkBlocked(t, []blocking{
		{s, at(0, 0, 0), at(5, 0, 0), true}, {s, at(0, 0, 0), at(2, 0, 0), false}, {s, at(0, 1, 0), at(5, 1, 0), false}, {s, at(0, 0, 1), at(5, 0, 1), false}, {s, at(3, 0, 0), at(3, 5, 0), false}, {s, at(3, 0, 0), at(5, 0, 0), false},
		// Through a cube: the lower faces belong to its inside, the upper ones do not.
		{c, at(4, 6, 7), at(7, 6, 7), true}, {c, at(5, 5, 7), at(5, 8, 7), true}, {c, at(5, 6, 6), at(5, 6, 9), true}, {c, at(0, 6, 7), at(end, 6, 7), true}, {c, at(5, 0, 7), at(5, end, 7), true}, {c, at(5, 6, 0), at(5, 6, sky), true},
		{c, at(4, 7, 7), at(7, 7, 7), false}, {c, at(4, 6, 8), at(7, 6, 8), false}, {c, at(4, 7, 8), at(7, 7, 8), false}, {c, at(6, 5, 7), at(6, 8, 7), false}, {c, at(5, 5, 8), at(5, 8, 8), false}, {c, at(6, 5, 8), at(6, 8, 8), false}, {c, at(6, 6, 6), at(6, 6, 9), false}, {c, at(5, 7, 6), at(5, 7, 9), false}, {c, at(6, 7, 6), at(6, 7, 9), false},
		{c, at(4, 5, 7), at(7, 5, 7), false}, {c, at(4, 6, 6), at(7, 6, 6), false}, {c, at(4, 5, 7), at(4, 8, 7), false}, {c, at(5, 5, 6), at(5, 8, 6), false}, {c, at(4, 6, 6), at(4, 6, 9), false}, {c, at(5, 5, 6), at(5, 5, 9), false},
		// From one face of it to the opposite one, as the ends themselves do not count, but all between them.
		{c, at(5, 6, 7), at(6, 6, 7), true}, {c, at(5, 6, 7), at(5, 7, 7), true}, {c, at(5, 6, 7), at(5, 6, 8), true},
		// Only t = 0 or t = 1 would meet it, or not even they.
		{c, at(5, 6, 7), at(4, 6, 7), false}, {c, at(5, 6, 7), at(5, 5, 7), false}, {c, at(5, 6, 7), at(5, 6, 6), false}, {c, at(5, 6, 7), at(0, 6, 7), false}, {c, at(5, 6, 7), at(5, 0, 7), false}, {c, at(5, 6, 7), at(5, 6, 0), false},
		{c, at(6, 6, 7), at(7, 6, 7), false}, {c, at(5, 7, 7), at(5, 8, 7), false}, {c, at(5, 6, 8), at(5, 6, 9), false}, {c, at(6, 6, 7), at(end, 6, 7), false}, {c, at(5, 7, 7), at(5, end, 7), false}, {c, at(5, 6, 8), at(5, 6, sky), false},
		// From the inside of a box to the outside, on both sides, and within it.
		{big, at(15, 25, 5), at(40, 25, 5), true}, {big, at(15, 25, 5), at(0, 25, 5), true}, {big, at(15, 25, 5), at(15, 60, 5), true}, {big, at(15, 25, 5), at(15, 0, 5), true}, {big, at(15, 25, 5), at(15, 25, 15), true}, {big, at(15, 25, 5), at(15, 25, 0), true}, {big, at(15, 25, 5), at(17, 25, 5), true},
		{big, at(29, 25, 5), at(40, 25, 5), true}, {big, at(30, 25, 5), at(40, 25, 5), false}, {big, at(11, 25, 5), at(0, 25, 5), true}, {big, at(10, 25, 5), at(0, 25, 5), false}, {big, at(15, 49, 5), at(15, 60, 5), true}, {big, at(15, 50, 5), at(15, 60, 5), false}, {big, at(15, 21, 5), at(15, 0, 5), true}, {big, at(15, 20, 5), at(15, 0, 5), false},
		{big, at(15, 25, 8), at(15, 25, 15), true}, {big, at(15, 25, 9), at(15, 25, 15), false}, {big, at(15, 25, 4), at(15, 25, 0), true}, {big, at(15, 25, 3), at(15, 25, 0), false}, {big, at(0, 25, 3), at(40, 25, 3), true}, {big, at(0, 25, 8), at(40, 25, 8), true}, {big, at(0, 25, 9), at(40, 25, 9), false}, {big, at(0, 25, 2), at(40, 25, 2), false},
		// Before and behind it.
		{big, at(0, 25, 5), at(9, 25, 5), false}, {big, at(0, 25, 5), at(11, 25, 5), true}, {big, at(31, 25, 5), at(90, 25, 5), false}, {big, at(15, 0, 5), at(15, 21, 5), true}, {big, at(15, 0, 5), at(15, 19, 5), false}, {big, at(15, 51, 5), at(15, 90, 5), false}, {big, at(15, 25, 10), at(15, 25, 90), false}, {big, at(15, 25, 0), at(15, 25, 4), true},
	})
}

// P11.1: segments in a plane of two axes, and across all three.
func TestBlockedAcross(t *testing.T) {
	s, c := cube(2, 0, 0), cube(5, 6, 7)
	checkBlocked(t, []blocking{
		{s, at(0, 2, 0), at(4, 0, 0), true}, {s, at(1, 2, 0), at(4, 1, 0), false}, {s, at(4, 0, 2), at(0, 0, 0), false}, {s, at(4, 0, 1), at(0, 0, 0), true},
		// Along the diagonals of the faces of a cube and through its middle, to and from its corners.
		{c, at(5, 6, 7), at(6, 7, 7), true}, {c, at(6, 6, 7), at(5, 7, 7), true}, {c, at(5, 6, 8), at(6, 7, 8), false}, {c, at(5, 6, 7), at(6, 6, 8), true}, {c, at(6, 6, 7), at(5, 6, 8), true}, {c, at(5, 7, 7), at(6, 7, 8), false},
		{c, at(5, 6, 7), at(5, 7, 8), true}, {c, at(5, 7, 7), at(5, 6, 8), true}, {c, at(6, 6, 7), at(6, 7, 8), false}, {c, at(5, 6, 7), at(6, 7, 8), true}, {c, at(6, 6, 7), at(5, 7, 8), true}, {c, at(5, 7, 7), at(6, 6, 8), true}, {c, at(5, 6, 8), at(6, 7, 7), true},
		// Past an edge that goes up: only the one of the least numbers belongs to the inside.
		{c, at(4, 7, 7), at(6, 5, 7), true}, {c, at(4, 5, 7), at(6, 7, 7), true}, {c, at(5, 8, 7), at(7, 6, 7), false}, {c, at(4, 6, 7), at(6, 8, 7), false}, {c, at(5, 5, 7), at(7, 7, 7), false}, {c, at(4, 7, 8), at(6, 5, 8), false}, {c, at(4, 7, 6), at(6, 5, 6), false},
		// Past the edges along the other two axes.
		{c, at(4, 6, 8), at(6, 6, 6), true}, {c, at(5, 6, 9), at(7, 6, 7), false}, {c, at(4, 6, 7), at(6, 6, 9), false}, {c, at(5, 6, 6), at(7, 6, 8), false}, {c, at(5, 5, 8), at(5, 7, 6), true}, {c, at(5, 6, 9), at(5, 8, 7), false}, {c, at(5, 5, 7), at(5, 7, 9), false}, {c, at(5, 6, 6), at(5, 8, 8), false},
		// Past a corner, in a direction in which only the corner is near the cube.
		{c, at(4, 7, 8), at(6, 5, 6), true}, {c, at(3, 7, 8), at(7, 5, 6), true}, {c, at(4, 7, 9), at(6, 5, 5), true}, {c, at(4, 8, 7), at(6, 4, 7), true}, {c, at(5, 6, 6), at(7, 6, 8), false}, {c, at(5, 8, 9), at(7, 6, 7), false}, {c, at(5, 5, 8), at(7, 7, 6), false}, {c, at(4, 7, 6), at(6, 5, 8), true}, {c, at(4, 6, 8), at(6, 8, 6), false},
		// It ends or begins at the corner that belongs to the cube, on the way from outside of it.
		{c, at(4, 7, 8), at(5, 6, 7), false}, {c, at(5, 6, 7), at(6, 5, 6), false}, {c, at(4, 5, 6), at(5, 6, 7), false}, {c, at(4, 5, 6), at(6, 7, 8), true}, {c, at(5, 6, 7), at(7, 8, 9), true}, {c, at(6, 7, 8), at(7, 8, 9), false}, {c, at(6, 7, 8), at(8, 5, 6), false},
		// It comes near, but is over or beside the cube when it gets there.
		{c, at(4, 6, 7), at(6, 6, 9), false}, {c, at(4, 6, 7), at(7, 6, 9), true}, {c, at(3, 6, 7), at(6, 6, 9), false}, {c, at(4, 6, 7), at(8, 8, 8), true}, {c, at(4, 6, 7), at(6, 8, 8), false}, {c, at(3, 3, 3), at(6, 9, 9), false}, {c, at(3, 3, 3), at(6, 8, 9), true},
		// Slopes that differ by little, to a cube far away.
		{cube(1000, 1, 0), at(0, 0, 0), at(2000, 2, 0), true}, {cube(999, 1, 0), at(0, 0, 0), at(2000, 2, 0), false}, {cube(999, 0, 0), at(0, 0, 0), at(2000, 2, 0), true}, {cube(1000, 0, 0), at(0, 0, 0), at(2000, 2, 0), false}, {cube(999, 1, 0), at(0, 0, 0), at(1999, 2, 0), true}, {cube(998, 1, 0), at(0, 0, 0), at(1999, 2, 0), false},
	})
}

// P11.1: if both ends are equal, their point has to be in the inside.
func TestBlockedPoint(t *testing.T) {
	s, c, two := built(10, 20, 30, 50, 3, 9), cube(5, 6, 7), cubes(1, 1, 1, 3, 1, 1)
	var l []blocking
	for _, p := range []struct {
		s       []api.Slab
		x, y, z int
		want    bool
	}{
		{cube(2, 0, 0), 2, 0, 0, true}, {c, 5, 6, 7, true}, {c, 6, 6, 7, false}, {c, 5, 7, 7, false}, {c, 5, 6, 8, false}, {c, 6, 7, 8, false}, {c, 4, 6, 7, false}, {c, 5, 5, 7, false}, {c, 5, 6, 6, false},
		{s, 10, 20, 3, true}, {s, 29, 49, 8, true}, {s, 15, 25, 5, true}, {s, 30, 25, 5, false}, {s, 15, 50, 5, false}, {s, 15, 25, 9, false}, {s, 9, 25, 5, false}, {s, 15, 19, 5, false}, {s, 15, 25, 2, false}, {s, 0, 0, 0, false}, {s, end, end, sky, false},
		{two, 1, 1, 1, true}, {two, 3, 1, 1, true}, {two, 2, 1, 1, false}, {nil, 0, 0, 0, false}, {nil, 5, 6, 7, false}, {everything(), 0, 0, 0, true}, {everything(), end - 1, end - 1, sky - 1, true}, {everything(), end, 5, 5, false}, {everything(), 5, end, 5, false}, {everything(), 5, 5, sky, false},
	} {
		l = append(l, blocking{p.s, at(p.x, p.y, p.z), at(p.x, p.y, p.z), p.want})
	}
	checkBlocked(t, l)
}

// P11.1: a point where cubes meet is in the inside of one of them only, so a segment may pass between two others.
func TestBlockedBetween(t *testing.T) {
	edge, other := cubes(0, 1, 0, 1, 0, 0), cubes(0, 0, 0, 1, 1, 0)
	corner := cubes(0, 0, 1, 1, 1, 0)
	u := built(0, 0, 9, 9, 0, 2, 3, 3, 6, 6, 2, 5)
	checkBlocked(t, []blocking{
		{edge, at(0, 0, 0), at(2, 2, 0), false}, {other, at(0, 2, 0), at(2, 0, 0), true}, {cubes(0, 0, 0), at(0, 2, 0), at(2, 0, 0), false}, {cubes(1, 1, 0), at(0, 2, 0), at(2, 0, 0), true}, {edge, at(1, 1, 0), at(3, 4, 0), false}, {edge, at(0, 0, 0), at(2, 3, 0), true}, {edge, at(0, 0, 0), at(3, 2, 0), true},
		{cubes(0, 0, 1, 1, 0, 0), at(0, 0, 0), at(2, 0, 2), false}, {cubes(0, 0, 0, 1, 0, 1), at(0, 0, 2), at(2, 0, 0), true}, {cubes(0, 0, 1, 0, 1, 0), at(0, 0, 0), at(0, 2, 2), false}, {cubes(0, 0, 0, 0, 1, 1), at(0, 0, 2), at(0, 2, 0), true},
		{corner, at(0, 2, 0), at(2, 0, 2), false}, {corner, at(2, 0, 0), at(0, 2, 2), false}, {corner, at(0, 0, 0), at(2, 2, 2), false}, {corner, at(0, 0, 2), at(2, 2, 0), true}, {cubes(0, 0, 0, 1, 1, 1), at(0, 2, 0), at(2, 0, 2), true}, {cubes(0, 1, 0, 1, 0, 1), at(0, 0, 2), at(2, 2, 0), false},
		// Through the gaps of posts and floors, and along the sides of them.
		{[]api.Slab{slab(0, 5, posts(200, 9)...)}, at(0, 3, 2), at(400, 3, 2), true}, {[]api.Slab{slab(0, 5, posts(200, 9)...)}, at(2, 0, 2), at(2, 9, 2), false}, {[]api.Slab{slab(0, 5, posts(200, 9)...)}, at(1, 0, 2), at(1, 9, 2), true}, {[]api.Slab{slab(0, 5, posts(200, 9)...)}, at(2, 0, 2), at(3, 9, 2), false},
		{[]api.Slab{slab(0, 5, posts(200, 9)...)}, at(2, 0, 2), at(3, 8, 2), false}, {[]api.Slab{slab(0, 5, posts(200, 9)...)}, at(2, 0, 2), at(4, 9, 2), true}, {floors(80, rect(0, 0, 9, 9)), at(0, 0, 2), at(9, 9, 3), false}, {floors(80, rect(0, 0, 9, 9)), at(0, 0, 2), at(9, 8, 4), true}, {floors(80, rect(0, 0, 9, 9)), at(0, 0, 1), at(9, 9, 0), false},
		// Over the lower part of a solid and beside the higher one.
		{u, at(0, 0, 3), at(9, 9, 3), true}, {u, at(0, 0, 5), at(9, 9, 5), false}, {u, at(0, 2, 3), at(9, 2, 3), false}, {u, at(0, 6, 2), at(9, 6, 2), false}, {u, at(0, 3, 2), at(9, 3, 2), true}, {u, at(0, 6, 2), at(9, 6, 1), true}, {u, at(0, 4, 2), at(3, 4, 3), false}, {u, at(6, 4, 2), at(9, 4, 3), false}, {u, at(0, 4, 2), at(4, 4, 3), true},
	})
}

// P11.1: the corners of the grid, where coordinates are least and greatest, and solids without cubes.
func TestBlockedCorners(t *testing.T) {
	last := cube(end-1, end-1, sky-1)
	checkBlocked(t, []blocking{
		{nil, at(0, 0, 0), at(9, 0, 0), false}, {[]api.Slab{}, at(0, 0, 0), at(end, end, sky), false}, {everything(), at(0, 0, 0), at(end, end, sky), true}, {everything(), at(0, 0, 0), at(end, 0, 0), true}, {everything(), at(end, 0, 0), at(end, end, sky), false}, {everything(), at(0, end, 0), at(end, end, sky), false}, {everything(), at(0, 0, sky), at(end, end, sky), false},
		{everything(), at(end, end, sky), at(end-1, end-1, sky-1), true}, {everything(), at(end, 5, 5), at(0, 5, 5), true}, {everything(), at(end, 0, 0), at(end-1, 0, 0), true}, {everything(), at(0, end, 0), at(0, end-1, 0), true}, {everything(), at(0, 0, sky), at(0, 0, sky-1), true}, {everything(), at(end, 0, sky), at(0, end, sky), false}, {everything(), at(end, 0, sky), at(0, end, sky-1), true},
		{cube(0, 0, 0), at(0, 0, 0), at(1, 0, 0), true}, {cube(0, 0, 0), at(0, 0, 0), at(end, end, sky), true}, {cube(0, 0, 0), at(1, 0, 0), at(0, 1, 0), true}, {cube(0, 0, 0), at(1, 0, 0), at(1, 1, 1), false}, {cube(0, 0, 0), at(1, 1, 1), at(end, end, sky), false}, {cube(0, 0, 0), at(0, 0, 1), at(0, 0, sky), false},
		{last, at(end, end, sky), at(0, 0, 0), true}, {last, at(end, end, sky), at(end-1, end-1, sky-1), true}, {last, at(end-1, end-1, sky-1), at(0, 0, 0), false}, {last, at(end, end-1, sky-1), at(end-1, end, sky), true}, {last, at(end, 0, 0), at(end, end, sky), false}, {last, at(0, end-1, sky-1), at(end, end-1, sky-1), true}, {last, at(0, end-1, sky-1), at(end-1, end-1, sky-1), false},
		{last, at(end-1, 0, sky-1), at(end-1, end, sky-1), true}, {last, at(end-1, end-1, 0), at(end-1, end-1, sky), true}, {last, at(end-1, end-1, 0), at(end-1, end-1, sky-1), false}, {last, at(end-1, end-1, 0), at(end, end, sky), true}, {last, at(0, end, sky), at(end, end, sky), false}, {last, at(end-2, end-2, sky-2), at(end, end, sky), true},
		{cube(end-1, 0, 0), at(0, 0, 0), at(end, 0, 0), true}, {cube(0, end-1, 0), at(0, 0, 0), at(0, end, 0), true}, {cube(0, 0, sky-1), at(0, 0, 0), at(0, 0, sky), true}, {cube(end-1, 0, 0), at(0, 0, 0), at(end-1, 0, 0), false}, {cube(0, end-1, 0), at(0, 0, 0), at(0, end-1, 0), false}, {cube(0, 0, sky-1), at(0, 0, 0), at(0, 0, sky-1), false},
	})
}

// P11.1: the longest segments, on which cubes are missed by one part of 2^40.
func TestBlockedLongest(t *testing.T) {
	var l []blocking
	from, to, near := at(0, 0, 0), at(end, end, sky), at(end, end-1, sky)
	for _, k := range []int{1, 2, 255, 256, 257, 1000, 77777, end / 2, end/2 + 1, end - 257, end - 256, end - 3, end - 2} {
		h := k / 256
		// The diagonals of the grid rise by one for each 256 columns. One goes through the least corners of cubes into them, the
		// other one past them.
		l = append(l, blocking{cube(k, k, h), from, to, true}, blocking{cube(k-1, k, h), from, to, false}, blocking{cube(k, k-1, h), from, to, false}, blocking{built(k, k, k+1, k+1, h, sky), from, to, true})
		if h > 0 {
			l = append(l, blocking{built(k, k, k+1, k+1, 0, h), from, to, false})
		}
		if h+1 < sky {
			l = append(l, blocking{built(k, k, k+1, k+1, h+1, sky), from, to, false})
		}
		l = append(l, blocking{cube(k, end-1-k, h), at(0, end, 0), at(end, 0, sky), true}, blocking{cube(k, end-k, h), at(0, end, 0), at(end, 0, sky), true}, blocking{cube(k, end-2-k, h), at(0, end, 0), at(end, 0, sky), false})
		// One row less, and each column is left by the border of two rows, somewhere within it.
		l = append(l, blocking{cube(k, k-1, h), from, near, true}, blocking{cube(k, k, h), from, near, true}, blocking{cube(k-1, k, h), from, near, false}, blocking{cube(k, k+1, h), from, near, false})
	}
	k := end - 1
	l = append(l, blocking{cube(k, k, k/256), from, to, true}, blocking{cube(k, k-1, k/256), from, near, true}, blocking{cube(k, k, k/256), from, near, false}, blocking{cube(0, 0, 0), from, near, true}, blocking{cube(0, 1, 0), from, near, false})
	checkBlocked(t, l)
}

// P11.1: no segment is blocked if the list is no solid, or an end is no point.
func TestBlockedInvalid(t *testing.T) {
	ends := []api.Point3{at(0, 0, 0), at(5, 5, 5), at(end, end, sky), at(3, 3, 50), at(0, 0, 60), at(5, 0, sky), at(0, end, 0)}
	for _, s := range [][]api.Slab{everything(), cube(5, 5, 5), built(0, 0, 9, 9, 0, 9), nil, notSolids()[0]} {
		for _, wrong := range notPoints() {
			for _, p := range append(ends, wrong) {
				if Blocked(s, p, wrong) || Blocked(s, wrong, p) {
					t.Error(s, p, wrong)
				}
			}
		}
	}
	for i, s := range notSolids() {
		for _, p := range ends {
			for _, q := range append(ends, at(3, 3, 0), at(3, 3, sky), at(0, 0, sky), at(-1, 0, 0)) {
				if Blocked(s, p, q) || Blocked(s, q, p) {
					t.Error(i, p, q)
				}
			}
		}
	}
}

// meeting is a row of a table of rays.
type meeting struct {
	s    []api.Slab
	p, d api.Point3
	want bool
}

// checkRay fails the test unless Ray says what is wanted of the rays of a table.
func checkRay(t *testing.T, l []meeting) {
	t.Helper()
	for i, c := range l {
		if Ray(c.s, c.p, c.d) != c.want {
			t.Error(i, c)
		}
	}
}

// P11.2: rays along one axis.
func TestRayAlong(t *testing.T) {
	s, c, big := cube(2, 0, 0), cube(5, 6, 7), built(10, 20, 30, 50, 3, 9)
	checkRay(t, []meeting{
		{s, at(0, 0, 0), at(1, 0, 0), true}, {s, at(0, 0, 0), at(-1, 0, 0), false}, {s, at(0, 0, 0), at(4, 1, 1), true}, {s, at(0, 0, 0), at(0, 1, 0), false}, {s, at(0, 0, 0), at(0, 0, 1), false},
		// To a cube, and away from it.
		{c, at(4, 6, 7), at(1, 0, 0), true}, {c, at(4, 6, 7), at(-1, 0, 0), false}, {c, at(9, 6, 7), at(-1, 0, 0), true}, {c, at(9, 6, 7), at(1, 0, 0), false}, {c, at(5, 0, 7), at(0, 3, 0), true}, {c, at(5, 0, 7), at(0, -3, 0), false}, {c, at(5, end, 7), at(0, -1, 0), true}, {c, at(5, 9, 7), at(0, 1, 0), false},
		{c, at(5, 6, 0), at(0, 0, 1), true}, {c, at(5, 6, 0), at(0, 0, -1), false}, {c, at(5, 6, sky), at(0, 0, -7), true}, {c, at(5, 6, 9), at(0, 0, 7), false}, {c, at(0, 6, 7), at(end, 0, 0), true}, {c, at(end, 6, 7), at(-end, 0, 0), true}, {c, at(5, 6, 0), at(0, 0, end), true}, {c, at(5, 6, sky), at(0, 0, -end), true},
		// Along its faces and edges.
		{c, at(0, 7, 7), at(1, 0, 0), false}, {c, at(0, 6, 8), at(1, 0, 0), false}, {c, at(0, 5, 7), at(1, 0, 0), false}, {c, at(0, 6, 6), at(1, 0, 0), false}, {c, at(6, 0, 7), at(0, 1, 0), false}, {c, at(5, 0, 8), at(0, 1, 0), false}, {c, at(4, 0, 7), at(0, 1, 0), false}, {c, at(5, 0, 6), at(0, 1, 0), false}, {c, at(6, 6, 0), at(0, 0, 1), false}, {c, at(5, 7, 0), at(0, 0, 1), false}, {c, at(4, 6, 0), at(0, 0, 1), false}, {c, at(5, 5, 0), at(0, 0, 1), false},
		// From its border: t = 0 does not count, but what comes just after it.
		{c, at(5, 6, 7), at(1, 0, 0), true}, {c, at(5, 6, 7), at(-1, 0, 0), false}, {c, at(5, 6, 7), at(0, 1, 0), true}, {c, at(5, 6, 7), at(0, -1, 0), false}, {c, at(5, 6, 7), at(0, 0, 1), true}, {c, at(5, 6, 7), at(0, 0, -1), false}, {c, at(6, 6, 7), at(-1, 0, 0), true}, {c, at(6, 6, 7), at(1, 0, 0), false},
		{c, at(5, 7, 7), at(0, -1, 0), true}, {c, at(5, 7, 7), at(0, 1, 0), false}, {c, at(5, 6, 8), at(0, 0, -1), true}, {c, at(5, 6, 8), at(0, 0, 1), false}, {c, at(6, 6, 7), at(0, 1, 0), false}, {c, at(5, 6, 7), at(end, 0, 0), true}, {c, at(5, 6, 7), at(-end, 0, 0), false},
		// From the inside of a box, in all directions.
		{big, at(15, 25, 5), at(1, 0, 0), true}, {big, at(15, 25, 5), at(-1, 0, 0), true}, {big, at(15, 25, 5), at(0, 1, 0), true}, {big, at(15, 25, 5), at(0, -1, 0), true}, {big, at(15, 25, 5), at(0, 0, 1), true}, {big, at(15, 25, 5), at(0, 0, -1), true}, {big, at(15, 25, 5), at(end, -end, end), true}, {big, at(29, 49, 8), at(1, 1, 1), true}, {big, at(11, 21, 4), at(-1, -1, -1), true},
		{big, at(10, 20, 3), at(1, 1, 1), true}, {big, at(10, 20, 3), at(-1, 1, 1), false}, {big, at(10, 20, 3), at(1, -1, 1), false}, {big, at(10, 20, 3), at(1, 1, -1), false}, {big, at(30, 50, 9), at(-1, -1, -1), true}, {big, at(30, 50, 9), at(0, -1, -1), false}, {big, at(30, 50, 9), at(-1, 0, -1), false}, {big, at(30, 50, 9), at(-1, -1, 0), false},
	})
}

// P11.2: rays in a plane of two axes, and across all three.
func TestRayAcross(t *testing.T) {
	s, c := cube(2, 0, 0), cube(5, 6, 7)
	checkRay(t, []meeting{
		{s, at(0, 0, 0), at(2, 1, 0), false}, {s, at(0, 0, 0), at(5, 2, 0), true}, {s, at(0, 0, 0), at(3, 1, 1), true}, {s, at(0, 0, 0), at(2, 1, 1), false}, {s, at(0, 0, 0), at(1000, 499, 499), true}, {s, at(0, 0, 0), at(1000, 500, 499), false}, {s, at(0, 0, 0), at(1000, 499, 500), false}, {s, at(0, 0, 0), at(end, end/2, 0), false}, {s, at(0, 0, 0), at(end, end/2-1, end/2-1), true}, {s, at(0, 0, 0), at(end-1, end/2, 0), false},
		// Past edges and corners, with the rest of the cube away from the ray.
		{c, at(4, 7, 7), at(1, -1, 0), true}, {c, at(6, 5, 7), at(-1, 1, 0), true}, {c, at(4, 6, 7), at(1, 1, 0), false}, {c, at(7, 7, 7), at(-1, -1, 0), false}, {c, at(6, 5, 7), at(1, -1, 0), false}, {c, at(4, 7, 8), at(1, -1, -1), true}, {c, at(6, 5, 6), at(-1, 1, 1), true}, {c, at(4, 7, 6), at(1, -1, 1), true}, {c, at(6, 5, 8), at(-1, 1, -1), true}, {c, at(4, 5, 8), at(1, 1, -1), true}, {c, at(7, 5, 6), at(-1, 1, 1), true}, {c, at(7, 5, 7), at(-1, 1, 1), false}, {c, at(7, 5, 6), at(-1, 1, 2), false},
		{c, at(4, 7, 8), at(-1, 1, 1), false}, {c, at(4, 7, 9), at(1, -1, -1), false}, {c, at(5, 8, 9), at(1, -1, -1), false}, {c, at(5, 6, 7), at(1, -1, -1), false}, {c, at(5, 6, 7), at(1, 1, 1), true}, {c, at(5, 6, 7), at(-1, -1, -1), false}, {c, at(6, 7, 8), at(-1, -1, -1), true}, {c, at(6, 7, 8), at(1, 1, 1), false}, {c, at(6, 7, 8), at(-1, 1, -1), false},
		// Between cubes that touch.
		{cubes(0, 1, 0, 1, 0, 0), at(0, 0, 0), at(1, 1, 0), false}, {cubes(0, 1, 0, 1, 0, 0), at(0, 0, 0), at(end, end, 0), false}, {cubes(0, 1, 0, 1, 0, 0), at(0, 0, 0), at(end, end-1, 0), true}, {cubes(0, 0, 0, 1, 1, 0), at(0, 2, 0), at(1, -1, 0), true}, {cubes(0, 0, 1, 1, 1, 0), at(0, 2, 0), at(1, -1, 1), false}, {cubes(0, 0, 1, 1, 1, 0), at(0, 0, 2), at(1, 1, -1), true},
		// Directions that have a great number and a small one.
		{cube(5, 0, 0), at(0, 0, 0), at(1, 0, 1), false}, {cube(5, 0, 5), at(0, 0, 0), at(1, 0, 1), true}, {cube(0, 0, sky-1), at(0, 0, 0), at(1, 1, end), true}, {cube(1, 0, sky-1), at(0, 0, 0), at(1, 1, end), false}, {cube(1, 1, sky-1), at(0, 0, 0), at(257, 257, end), true}, {cube(1, 1, sky-1), at(0, 0, 0), at(256, 256, end), false}, {cube(1, 1, 4080), at(0, 0, 0), at(257, 257, end), true}, {cube(1, 1, 4079), at(0, 0, 0), at(257, 257, end), false},
	})
}

// P11.2: the corners of the grid, directions of the greatest size, and solids without cubes.
func TestRayCorners(t *testing.T) {
	tower, last := built(end-1, 5, end, 6, 0, sky), cube(end-1, end-1, sky-1)
	checkRay(t, []meeting{
		{nil, at(0, 0, 0), at(1, 1, 1), false}, {[]api.Slab{}, at(5, 5, 5), at(1, 0, 0), false}, {everything(), at(0, 0, 0), at(1, 1, 1), true}, {everything(), at(0, 0, 0), at(-1, 0, 0), false}, {everything(), at(0, 0, 0), at(1, -1, 0), false}, {everything(), at(end, end, sky), at(-1, -1, -1), true}, {everything(), at(end, end, sky), at(-1, -1, 0), false}, {everything(), at(end, 5, 5), at(0, 1, 0), false}, {everything(), at(end, 5, 5), at(-1, 0, 0), true},
		{tower, at(0, 5, 0), at(1, 0, 0), true}, {tower, at(0, 5, 0), at(end, 0, 4), true}, {tower, at(0, 5, 0), at(1, 0, 1), false}, {tower, at(0, 5, 0), at(end, 0, sky), true}, {tower, at(0, 5, 0), at(end, 0, sky+1), false}, {tower, at(0, 5, 1), at(end, 0, sky), false}, {tower, at(0, 5, 0), at(end-1, 0, sky), false}, {tower, at(0, 5, 0), at(end, 1, sky), true}, {tower, at(0, 5, 0), at(end-1, 1, 0), false}, {tower, at(0, 5, 0), at(end, 1, 0), true}, {tower, at(0, 5, 0), at(end, -1, 0), false},
		{last, at(0, 0, 0), at(256, 256, 1), true}, {last, at(0, 0, 0), at(end, end, sky), true}, {last, at(0, 0, 0), at(end, end-1, sky), false}, {last, at(0, 0, 0), at(end, end-2, sky), false}, {last, at(0, 0, 0), at(end-1, end-1, sky-1), true}, {last, at(0, 0, 0), at(end, end, sky+1), false}, {last, at(0, 0, 0), at(end, end, sky-1), false}, {last, at(end, end, sky), at(-end, -end, -end), true}, {last, at(end-1, end-1, 0), at(0, 0, end), true}, {last, at(0, end-1, sky-1), at(end, 0, 0), true},
		{cube(0, 0, 0), at(end, end, sky), at(-256, -256, -1), true}, {cube(0, 0, 0), at(end, end, sky), at(-end, -end, -sky), true}, {cube(0, 0, 0), at(end, end, sky), at(-end, -end, 1-sky), false}, {cube(0, 0, 0), at(end, end, sky), at(1-end, -end, -sky), false}, {cube(0, 0, 0), at(end, end, sky), at(-end, -end, -sky-1), false}, {cube(0, 0, 0), at(0, 0, sky), at(0, 0, -1), true}, {cube(0, 0, 0), at(0, 0, 0), at(0, 0, -1), false}, {cube(0, 0, 0), at(1, 1, 1), at(-end, -end, -end), true}, {cube(0, 0, 0), at(1, 1, 1), at(-end, 0, -end), false},
	})
}

// P11.2: all directions up to the greatest ones are valid.
func TestRayDirections(t *testing.T) {
	sizes := []int{-end, -end + 1, -2, -1, 0, 1, 2, end - 1, end}
	for _, x := range sizes {
		for _, y := range sizes {
			for _, z := range sizes {
				is := x != 0 || y != 0 || z != 0
				if Ray(everything(), at(5, 5, 5), at(x, y, z)) != is {
					t.Error(x, y, z, !is)
				}
			}
		}
	}
}

// P11.2: no ray meets anything if the list is no solid, it begins at no point, or its direction is none.
func TestRayInvalid(t *testing.T) {
	right := []api.Point3{at(1, 0, 0), at(0, -1, 0), at(0, 0, 1), at(-3, 4, -5), at(end, end, end), at(-end, -end, -end)}
	for _, s := range [][]api.Slab{everything(), cube(5, 5, 5), built(0, 0, 9, 9, 0, 9), nil, notSolids()[0]} {
		for _, wrong := range notPoints() {
			for _, d := range append(right, api.Point3{}, at(end+1, 0, 0)) {
				if Ray(s, wrong, d) {
					t.Error(s, wrong, d)
				}
			}
		}
		for _, wrong := range notDirections() {
			for _, p := range []api.Point3{at(0, 0, 0), at(5, 5, 5), at(5, 6, 5), at(end, end, sky), at(-1, 5, 5)} {
				if Ray(s, p, wrong) {
					t.Error(s, p, wrong)
				}
			}
		}
	}
	for i, s := range notSolids() {
		for _, p := range []api.Point3{at(0, 0, 0), at(0, 0, 50), at(3, 3, 50), at(0, 0, sky), at(3, 3, 0), at(4, 4, 51), at(1, 1, 61), at(end, end, sky)} {
			for _, d := range append(right, at(0, 0, -1), at(-1, -1, -1), api.Point3{}) {
				if Ray(s, p, d) {
					t.Error(i, p, d)
				}
			}
		}
	}
}

// P11.1, P11.2: solids as large as there are, with a cube that is met in each of their slabs and rectangles in turn.
func TestLargest(t *testing.T) {
	var s []api.Slab
	for i := range 80 {
		s = append(s, slab(51*i, 51*i+50, posts(200, 401+i%2)...))
	}
	if !solid.Right(s) {
		t.Fatal("no solid")
	}
	for i, m := range s {
		r := m.Area[(i*7+3)%200]
		for _, c := range []struct {
			p, q api.Point3
			want bool
		}{
			{at(r.X0, 500, m.Z0), at(r.X0, 0, m.Z0), true}, {at(r.X1, 500, m.Z0), at(r.X1, 0, m.Z0), false}, {at(r.X0, 500, m.Z1), at(r.X0, 0, m.Z1), false}, {at(r.X0, r.Y1, m.Z0), at(r.X1, r.Y1, m.Z0), false}, {at(r.X0, r.Y1-1, m.Z0), at(r.X1, r.Y1-1, m.Z0), true},
			{at(r.X1, 7, 0), at(r.X1, 9, sky), false}, {at(r.X1, 7, m.Z1-1), at(r.X1+1, 9, m.Z1), false}, {at(r.X1, 7, m.Z1-1), at(r.X1-1, 9, m.Z1), true}, {at(r.X0, 7, 0), at(r.X0, 9, sky), true}, {at(0, 7, m.Z1), at(400, 9, m.Z1), false}, {at(0, 401, m.Z0), at(400, 401, m.Z1), i%2 == 1},
		} {
			if Blocked(s, c.p, c.q) != c.want || Blocked(s, c.q, c.p) != c.want {
				t.Error(i, c)
			}
			if c.want && !Ray(s, c.p, at(c.q.X-c.p.X, c.q.Y-c.p.Y, c.q.Z-c.p.Z)) {
				t.Error("ray", i, c)
			}
		}
		if Ray(s, at(r.X1, 500, m.Z0), at(0, -1, 0)) || Ray(s, at(r.X0, 500, m.Z1), at(0, -1, 0)) || !Ray(s, at(r.X0, 500, m.Z1), at(0, -451, -1)) || Ray(s, at(r.X0, 500, m.Z1), at(0, -1, -50)) {
			t.Error(i)
		}
	}
}
