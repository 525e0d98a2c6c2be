package polygon

import (
	"cmp"
	"maps"
	"math/rand"
	"slices"
	"testing"

	"greenbelt/api"
	"greenbelt/region"
)

// These tests follow the definitions of the chapter point by point, cell by cell and unit side by unit side, in small
// windows at the borders of the grid and within it, and carry what they find there over to shapes of all sizes.

// window is a part of the grid, 8 cells wide and high, from (x, y) on.
type window struct{ x, y int }

// windows lie at the corners of the grid and within it.
func windows() []window {
	return []window{{0, 0}, {end - 8, end - 8}, {0, end - 8}, {end - 8, 0}, {1 << 19, 77}}
}

// isPolygon is the definition, for lists of points that are near to each other.
func isPolygon(p []api.Point) bool {
	if len(p) < 4 || len(p) > 60 {
		return false
	}
	for i, a := range p {
		b, c := p[(i+1)%len(p)], p[(i+2)%len(p)]
		inGrid := 0 <= a.X && a.X <= 1048576 && 0 <= a.Y && a.Y <= 1048576
		differ := (a.X != b.X) != (a.Y != b.Y)
		turns := (a.X == b.X) == (b.X != c.X)
		least := i == 0 || p[0].X < a.X || p[0].X == a.X && p[0].Y < a.Y
		if !inGrid || !differ || !turns || !least {
			return false
		}
	}
	return p[1].X > p[0].X && !isShared(p)
}

// isShared reports whether two sides have a point in common that is not the corner between them.
func isShared(p []api.Point) bool {
	of := map[api.Point][]int{} // The sides that have a point.
	for i, from := range p {
		to := p[(i+1)%len(p)]
		dx, dy := cmp.Compare(to.X, from.X), cmp.Compare(to.Y, from.Y)
		for q := from; q != to; q = (api.Point{X: q.X + dx, Y: q.Y + dy}) {
			of[q] = append(of[q], i)
		}
		of[to] = append(of[to], i)
	}
	for q, l := range of {
		last := len(p) - 1
		if len(l) > 1 && !(len(l) == 2 && (l[1] == l[0]+1 && q == p[l[1]] || l[0] == 0 && l[1] == last && q == p[0])) {
			return true
		}
	}
	return false
}

// isIn is the definition: whether a polygon has a cell.
func isIn(p []api.Point, x, y int) bool {
	n := 0
	for i, a := range p {
		b := p[(i+1)%len(p)]
		if a.X == b.X && a.X <= x && (a.Y <= y && y < b.Y || b.Y <= y && y < a.Y) {
			n++
		}
	}
	return n%2 == 1
}

// compare fails the test unless everything that is said of a list of points near a window is what the definitions say.
func (w window) compare(t *testing.T, p []api.Point) {
	t.Helper()
	if !isPolygon(p) {
		checkNone(t, p)
		return
	}
	var cells []api.Rect
	for x := w.x; x < w.x+8; x++ {
		for y := w.y; y < w.y+8; y++ {
			if isIn(p, x, y) {
				cells = append(cells, list(x, y, x+1, y+1)...)
			}
		}
	}
	checkPolygon(t, p, of(cells))
}

// P7.1: all lists of up to 5 points of a small square, at the borders of the grid, and all of 6 points of 9.
func TestListModel(t *testing.T) {
	for _, c := range []struct{ n, from, side int }{{1, -1, 4}, {2, -1, 4}, {3, -1, 4}, {4, -1, 4}, {4, end - 2, 4}, {4, 70, 4}, {5, 0, 3}, {6, end - 2, 3}} {
		w, p := window{c.from, c.from}, make([]api.Point, c.n)
		all := 1
		for range c.n {
			all *= c.side * c.side
		}
		for k := range all {
			for i := range p {
				p[i] = api.Point{X: c.from + k%c.side, Y: c.from + k/c.side%c.side}
				k /= c.side * c.side
			}
			w.compare(t, p)
		}
	}
}

// P7.1, P7.4: all lists of a few coordinates of which every other one is an X, so that the sides are horizontal and
// vertical in turn: most of them cross themselves, but all polygons with up to 10 corners of the square are among them.
func TestAlternateModel(t *testing.T) {
	for i, c := range []struct{ n, side int }{{4, 4}, {6, 5}, {8, 4}, {10, 4}} {
		w := windows()[i%5]
		all, found := 1, 0
		for range c.n {
			all *= c.side
		}
		p, n := make([]api.Point, c.n), make([]int, c.n)
		for k := range all {
			for i := range n {
				n[i] = k % c.side
				k /= c.side
			}
			// Two successive points have one coordinate in common.
			for i := range p {
				x, y := n[i], n[(i+1)%len(n)]
				if i%2 == 1 {
					x, y = y, x
				}
				p[i] = api.Point{X: w.x + x, Y: w.y + y}
			}
			if w.compare(t, p); Right(p) {
				found++
			}
		}
		if found == 0 {
			t.Error("no polygons with", c.n)
		}
	}
}

// cells is a set of cells of a window: the bit 8 * i + j says that it has the cell in the column i and the row j.
type cells uint64

// has reports whether a set has a cell; it has none outside of the window.
func (c cells) has(i, j int) bool { return 0 <= i && i < 8 && 0 <= j && j < 8 && c>>(8*i+j)&1 == 1 }

// square returns the cells of a square of 4 by 4, from (i, j) on, for which the number n has a bit.
func square(i, j, n int) (c cells) {
	for bit := range 16 {
		c |= cells(n>>bit&1) << (8*(i+bit/4) + j + bit%4)
	}
	return c
}

// someCells returns a set of a window in which each cell is with a probability that differs from set to set.
func someCells(random *rand.Rand) (c cells) {
	dense := 1 + random.Intn(8)
	for bit := range 64 {
		if random.Intn(9) < dense {
			c |= 1 << bit
		}
	}
	return c
}

// rects returns the region of a set of which the sides of the cells lie at the given X and Y, nine each.
func (c cells) rects(xs, ys []int) []api.Rect {
	var l []api.Rect
	for bit := range 64 {
		if i, j := bit/8, bit%8; c.has(i, j) {
			l = append(l, list(xs[i], ys[j], xs[i+1], ys[j+1])...)
		}
	}
	return of(l)
}

// unit is a directed unit side that begins at (x, y). It leads to the right, up, to the left, or down.
type unit struct{ x, y, to int }

// units is a set of unit sides of a window.
type units [9][9][4]bool

// next returns the point to which a unit side leads.
func (u unit) next() (x, y int) {
	return u.x + [4]int{1, 0, -1, 0}[u.to], u.y + [4]int{0, 1, 0, -1}[u.to]
}

// units returns the boundary of a set: what has a cell on the left, and none on the right.
func (c cells) units() (l units) {
	for bit := range 64 {
		if i, j := bit/8, bit%8; c.has(i, j) {
			l[i][j][0] = !c.has(i, j-1)
			l[i+1][j][1] = !c.has(i+1, j)
			l[i+1][j+1][2] = !c.has(i, j+1)
			l[i][j+1][3] = !c.has(i-1, j)
		}
	}
	return l
}

// follow is the definition of the successor.
func (l *units) follow(u unit) unit {
	var found [4]unit
	n := 0
	x, y := u.next()
	for to := range 4 {
		if l[x][y][to] {
			found[n] = unit{x, y, to}
			n++
		}
	}
	if n == 2 {
		return unit{x, y, (u.to + 1) % 4}
	}
	return found[0]
}

// loops is the definition: the cycles of successors, with the points at which they turn.
func (c cells) loops() [][]api.Point {
	all := c.units()
	left := all
	var loops [][]api.Point
	for k := range 81 * 4 {
		u := unit{k / 4 / 9, k / 4 % 9, k % 4}
		var turns []api.Point
		for left[u.x][u.y][u.to] {
			left[u.x][u.y][u.to] = false
			v := all.follow(u)
			if v.to != u.to {
				turns = append(turns, api.Point{X: v.x, Y: v.y})
			}
			u = v
		}
		if turns != nil {
			loops = append(loops, fromLeast(turns))
		}
	}
	slices.SortFunc(loops, func(l, m []api.Point) int { return order(l[0], m[0]) })
	return loops
}

// order compares points by X, then by Y.
func order(p, q api.Point) int { return cmp.Or(p.X-q.X, p.Y-q.Y) }

// fromLeast returns a cycle of points from the least one on.
func fromLeast(p []api.Point) []api.Point {
	i := 0
	for k, q := range p {
		if order(q, p[i]) < 0 {
			i = k
		}
	}
	return append(slices.Clone(p[i:]), p[:i]...)
}

// stretched returns loops with other coordinates.
func stretched(loops [][]api.Point, xs, ys []int) [][]api.Point {
	var l [][]api.Point
	for _, p := range loops {
		var q []api.Point
		for _, corner := range p {
			q = append(q, api.Point{X: xs[corner.X], Y: ys[corner.Y]})
		}
		l = append(l, q)
	}
	return l
}

// checkDown fails the test unless at each cell of an area the vertical sides of loops lead downward once more than
// upward, if it is in the region, and as often otherwise.
func checkDown(t *testing.T, a []api.Rect, loops [][]api.Point, xs, ys []int) {
	t.Helper()
	for _, x := range xs {
		for _, y := range ys {
			down := 0
			for _, p := range loops {
				for i, a := range p {
					b := p[(i+1)%len(p)]
					if a.X == b.X && a.X <= x && b.Y <= y && y < a.Y {
						down++
					}
					if a.X == b.X && a.X <= x && a.Y <= y && y < b.Y {
						down--
					}
				}
			}
			if down != 0 && down != 1 || (down == 1) != region.Has(a, x, y) {
				fail(t, a, loops, x, y, down)
			}
		}
	}
}

// checkCells fails the test unless a set of cells in a window has the outline of the definition, and each of its loops,
// from either side, is what it should be for the functions of polygons.
func (w window) checkCells(t *testing.T, c cells) {
	t.Helper()
	xs, ys := numbers(w.x, 9), numbers(w.y, 9)
	a, loops := c.rects(xs, ys), stretched(c.loops(), xs, ys)
	checkLoops(t, a, loops)
	checkDown(t, a, Outline(a), numbers(w.x-1, 10), numbers(w.y-1, 10))
	for _, p := range loops {
		w.compare(t, p)
		hole := slices.Clone(p)
		slices.Reverse(hole[1:])
		w.compare(t, hole)
	}
}

// P7.2, P7.4, P7.5: all sets of 16 cells, which lie in the corner of the grid if the window does, and random ones of 64.
func TestCellsModel(t *testing.T) {
	for n := range 1 << 16 {
		w := windows()[n%5]
		i, j := 0, 0
		if w.x == end-8 {
			i = 4
		}
		if w.y == end-8 {
			j = 4
		}
		w.checkCells(t, square(i, j, n))
	}
	random := rand.New(rand.NewSource(1))
	for n := range 5000 {
		windows()[n%5].checkCells(t, someCells(random))
	}
}

// someNumbers returns n ascending numbers of the grid, often with its ends, or near to each other.
func someNumbers(random *rand.Rand, n int) []int {
	size := n + random.Intn(1<<(5+random.Intn(16)))
	size = min(size, end)
	used := map[int]bool{}
	for len(used) < n {
		used[random.Intn(size+1)] = true
	}
	var l []int
	from := []int{0, end - size, random.Intn(end - size + 1)}[random.Intn(3)]
	for _, k := range slices.Sorted(maps.Keys(used)) {
		l = append(l, from+k)
	}
	if random.Intn(3) == 0 {
		l[0], l[n-1] = 0, end
	}
	return l
}

// P7.2, P7.4: sets of cells that are stretched to all sizes have the same loops, with other coordinates.
func TestStretched(t *testing.T) {
	random := rand.New(rand.NewSource(2))
	for n := range 1000 {
		c := someCells(random)
		if n%4 == 0 {
			c = square(2, 2, random.Intn(1<<16))
		}
		xs, ys := someNumbers(random, 9), someNumbers(random, 9)
		a, loops := c.rects(xs, ys), stretched(c.loops(), xs, ys)
		checkLoops(t, a, loops)
		for _, p := range loops {
			if isPolygon(ranks(p)) {
				checkPolygon(t, p, cellsOf(p))
			} else {
				checkNone(t, p)
			}
		}
	}
}

// ranks returns points with the places of their coordinates among all of them: whether a list is a polygon does not
// depend on how far its sides are apart.
func ranks(p []api.Point) []api.Point {
	xs, ys := axes(p)
	var l []api.Point
	for _, q := range p {
		l = append(l, api.Point{X: slices.Index(xs, q.X), Y: slices.Index(ys, q.Y)})
	}
	return l
}

// axes returns all X and all Y of some points, each once and in ascending order.
func axes(p []api.Point) (xs, ys []int) {
	for _, q := range p {
		xs, ys = append(xs, q.X), append(ys, q.Y)
	}
	slices.Sort(xs)
	slices.Sort(ys)
	return slices.Compact(xs), slices.Compact(ys)
}

// cellsOf is the definition of the region of a polygon with any coordinates: its columns change at its X, and its rows at
// its Y.
func cellsOf(p []api.Point) []api.Rect {
	var l []api.Rect
	xs, ys := axes(p)
	for i := 1; i < len(xs); i++ {
		for j, from := 0, 0; j < len(ys); j++ {
			in, was := isIn(p, xs[i-1], ys[j]), j > 0 && isIn(p, xs[i-1], ys[j-1])
			if in && !was {
				from = ys[j]
			}
			if was && !in {
				l = append(l, list(xs[i-1], from, xs[i], ys[j])...)
			}
		}
	}
	return of(l)
}

// changed returns a polygon with another place of a side, or with more or fewer corners, which may be none any more.
func changed(random *rand.Rand, p []api.Point, number func() int) []api.Point {
	p = slices.Clone(p)
	i := random.Intn(len(p))
	next := (i + 1) % len(p)
	a, b, x, y, z := p[i], p[next], number(), number(), number()
	standing := a.X == b.X
	switch random.Intn(4) {
	case 0: // The side is moved.
		if standing {
			p[i].X, p[next].X = x, x
		} else {
			p[i].Y, p[next].Y = y, y
		}
	case 1: // Two more corners before the end of the side.
		if standing {
			p[next].X = x
			p = slices.Insert(p, i+1, api.Point{X: a.X, Y: y}, api.Point{X: x, Y: y})
		} else {
			p[next].Y = y
			p = slices.Insert(p, i+1, api.Point{X: x, Y: a.Y}, api.Point{X: x, Y: y})
		}
	case 2: // Four more corners within the side.
		if standing {
			p = slices.Insert(p, i+1, points(a.X, y, x, y, x, z, a.X, z)...)
		} else {
			p = slices.Insert(p, i+1, points(x, a.Y, x, y, z, y, z, a.Y)...)
		}
	case 3: // Two corners less.
		if len(p) > 4 {
			p = slices.Delete(p, min(i, len(p)-2), min(i, len(p)-2)+2)
		}
	}
	return fromLeast(p)
}

// somePolygon returns a polygon of at most the given number of corners, with coordinates of all sizes. On the way to it,
// it compares all lists that could have become one with the definition.
func somePolygon(t *testing.T, random *rand.Rand, most int) []api.Point {
	n := someNumbers(random, 2+random.Intn(40))
	number := func() int { return n[random.Intn(len(n))] }
	p := box(n[0], n[0], n[len(n)-1], n[len(n)-1])
	for range 9 * most {
		q := changed(random, p, number)
		is := isPolygon(ranks(q))
		if Right(q) != is {
			fail(t, q, Right(q))
		}
		// Most polygons should have many corners.
		if is && len(q) <= most && (len(q) >= len(p) || random.Intn(9) == 0) {
			p = q
		}
	}
	return p
}

// P7.1, P7.4: polygons with up to 60 corners and coordinates of all sizes.
func TestPolygonModel(t *testing.T) {
	random := rand.New(rand.NewSource(3))
	corners := 0
	for range 300 {
		p := somePolygon(t, random, 4+random.Intn(57))
		corners = max(corners, len(p))
		checkPolygon(t, p, cellsOf(p))
	}
	if corners < 50 {
		t.Error("at most", corners, "corners")
	}
}

// P7.6: a polygon that is moved has the moved region, and is none any more if it leaves the grid.
func TestMoved(t *testing.T) {
	random := rand.New(rand.NewSource(4))
	var all [][]api.Point
	for _, s := range shapes() {
		all = append(all, s.p)
	}
	all = append(all, comb(numbers(200, 15), numbers(1, 14)), comb(numbers(end-14, 15), numbers(1, 14)))
	for range 200 {
		all = append(all, somePolygon(t, random, 20))
	}
	for _, p := range all {
		xs, ys := axes(p)
		steps := func(l []int) []int {
			low, high := -l[0], end-l[len(l)-1]
			return []int{low - 1, low, 0, low + random.Intn(high-low+1), high, high + 1}
		}
		for _, dx := range steps(xs) {
			for _, dy := range steps(ys) {
				checkMoved(t, p, dx, dy, -xs[0] <= dx && dx <= end-xs[len(xs)-1] && -ys[0] <= dy && dy <= end-ys[len(ys)-1])
			}
		}
	}
}

// checkMoved fails the test unless a polygon that is moved has the moved region, or is none.
func checkMoved(t *testing.T, p []api.Point, dx, dy int, stays bool) {
	t.Helper()
	q := slices.Clone(p)
	for i := range q {
		q[i].X, q[i].Y = q[i].X+dx, q[i].Y+dy
	}
	if !stays {
		checkNone(t, q)
		return
	}
	a, e := Region(p)
	want, _ := region.Shift(a, dx, dy)
	if got, f := Region(q); !Right(q) || Area(q) != Area(p) || f != e || !slices.Equal(got, want) {
		fail(t, q, Right(q), Area(q), f, got, "not", Area(p), e, want)
	}
}

// someRegion returns a region of rectangles of all sizes, of which some meet.
func someRegion(random *rand.Rand) []api.Rect {
	for {
		xs, ys := someNumbers(random, 2+random.Intn(20)), someNumbers(random, 2+random.Intn(20))
		var l []api.Rect
		for range random.Intn(30) {
			i, j := random.Intn(len(xs)-1), random.Intn(len(ys)-1)
			l = append(l, list(xs[i], ys[j], xs[min(i+1+random.Intn(4), len(xs)-1)], ys[min(j+1+random.Intn(4), len(ys)-1)])...)
		}
		if a, e := region.Of(l); e == api.OK {
			return a
		}
	}
}

// P7.2, P7.5: regions of all sizes: each loop alternates, begins with its least point, which no other one begins with,
// and the cells are those to the left of the loops.
func TestRegions(t *testing.T) {
	random := rand.New(rand.NewSource(5))
	for range 2000 {
		a := someRegion(random)
		loops := Outline(a)
		var corners []api.Point
		for i, p := range loops {
			if i > 0 && order(loops[i-1][0], p[0]) >= 0 || order(slices.MinFunc(p, order), p[0]) != 0 || slices.Contains(p[1:], p[0]) || len(p)%2 == 1 {
				fail(t, a, loops)
			}
			for k, from := range p {
				if to := p[(k+1)%len(p)]; (from.X == to.X) == (from.Y == to.Y) || (from.X == to.X) == (k%2 == 0) == (p[1].Y == p[0].Y) {
					fail(t, a, p)
				}
			}
			corners = append(corners, p...)
		}
		var xs, ys []int
		for range min(len(corners), 6) {
			q, r := corners[random.Intn(len(corners))], corners[random.Intn(len(corners))]
			xs, ys = append(xs, q.X-1, q.X, random.Intn(end)), append(ys, r.Y-1, r.Y, random.Intn(end))
		}
		checkDown(t, a, loops, xs, ys)
	}
}

// results has what all functions return for points and for rectangles.
type results struct {
	right  bool
	area   int
	e      api.Errno
	region []api.Rect
	loops  [][]api.Point
}

func resultsOf(p []api.Point, a []api.Rect) (r results) {
	r.right, r.area, r.loops = Right(p), Area(p), Outline(a)
	r.region, r.e = Region(p)
	return r
}

// same reports whether two results are equal.
func (r results) same(s results) bool {
	return r.right == s.right && r.area == s.area && r.e == s.e && slices.Equal(r.region, s.region) && slices.EqualFunc(r.loops, s.loops, slices.Equal)
}

// spoil overwrites all that a slice has, also behind its end.
func spoil[T any](l []T, with T) {
	l = l[:cap(l)]
	for i := range l {
		l[i] = with
	}
}

// behind returns a copy of a slice that has other elements behind its end.
func behind[T any](l []T, others ...T) []T { return append(slices.Clone(l), others...)[:len(l)] }

// checkPure fails the test if a call changes its arguments, looks behind their ends, or shares memory with anything.
func checkPure(t *testing.T, p []api.Point, a []api.Rect) {
	t.Helper()
	wrong, bad := api.Point{X: -7, Y: -7}, api.Rect{X0: -7, Y0: -7, X1: -7, Y1: -7}
	want := resultsOf(slices.Clone(p), slices.Clone(a))
	q, b := behind(p, points(0, 0, 1, 0, 1, 1, 0, 1)...), behind(a, list(0, 0, 9, 9, 3, 3, 4, 4)...)
	got := resultsOf(q, b)
	if !got.same(want) {
		fail(t, []any{p, a}, got, "not", want)
	}
	if !slices.Equal(q[:len(p)+4], append(slices.Clone(p), points(0, 0, 1, 0, 1, 1, 0, 1)...)) || !slices.Equal(b[:len(a)+2], append(slices.Clone(a), list(0, 0, 9, 9, 3, 3, 4, 4)...)) {
		fail(t, []any{p, a}, "changed to", q, b)
	}
	// Whatever is written into an argument later, or into another result, changes no result.
	again := resultsOf(q, b)
	spoil(q, wrong)
	spoil(b, bad)
	spoil(again.region, bad)
	for _, loop := range again.loops {
		spoil(loop, wrong)
	}
	spoil(again.loops, nil)
	for i, loop := range got.loops {
		if !slices.Equal(loop, want.loops[i]) || !slices.Equal(got.region, want.region) {
			fail(t, []any{p, a}, "results share memory", i)
		}
		spoil(loop, wrong)
	}
	if !slices.Equal(got.region, want.region) || !resultsOf(p, a).same(want) {
		fail(t, []any{p, a}, "results share memory, or differ from call to call")
	}
}

// P7.3: the functions are pure, for polygons and regions, for other lists, and for random ones.
func TestPure(t *testing.T) {
	var lists [][]api.Rect
	for _, o := range outlines() {
		lists = append(lists, of(o.cells))
	}
	lists = append(lists, dots(200, 7), dots(201, 7), list(0, 0, 1, 1, 0, 0, 1, 1), list(1, 1, 1, 1), list(3, 3, 9, 9, 0, 0, 1, 1))
	all := append(notPolygons(), comb(numbers(200, 15), numbers(1, 14)))
	for _, s := range shapes() {
		all = append(all, s.p)
	}
	for i, p := range all {
		if len(p) < 1000 {
			checkPure(t, p, lists[i%len(lists)])
		}
	}
	for i, a := range lists {
		checkPure(t, all[len(all)-1-i], a)
	}
	random := rand.New(rand.NewSource(6))
	for range 300 {
		checkPure(t, somePolygon(t, random, 12), someRegion(random))
	}
}
