package offset

import (
	"math/rand"
	"slices"
	"testing"

	"greenbelt/api"
	"greenbelt/rect"
	"greenbelt/region"
)

// These tests follow the definitions of the chapter cell by cell, in small windows at the borders of the grid and
// within it, and compare regions of all sizes with the properties of the chapter.

const (
	side   = 16 // of a window
	margin = 4  // between the sides of a window and the cells with which a test begins
)

// window is a part of the plane from (x, y) on, which may lie partly outside of the grid.
type window struct{ x, y int }

// cells is a set of cells of a window, by columns.
type cells [side][side]bool

// windows begin before the corners of the grid, so that the cells within the margin lie at its borders, and within it.
func windows() []window {
	return []window{{-margin, -margin}, {end - side + margin, end - side + margin}, {-margin, end - side + margin}, {end - side + margin, -margin}, {1 << 19, 77}}
}

// inGrid reports whether the grid has a cell of a window.
func (w window) inGrid(i, j int) bool {
	return 0 <= w.x+i && w.x+i < end && 0 <= w.y+j && w.y+j < end
}

// has reports whether a set has a cell; it has none outside of its window.
func (c *cells) has(i, j int) bool {
	return 0 <= i && i < side && 0 <= j && j < side && c[i][j]
}

// region returns the region of a set.
func (w window) region(c *cells) []api.Rect {
	var l []api.Rect
	for i := range side {
		for j := range side {
			k := j
			for c.has(i, k) && !c.has(i, j-1) {
				k++
			}
			if k > j {
				l = append(l, list(w.x+i, w.y+j, w.x+i+1, w.y+k)...)
			}
		}
	}
	return of(l)
}

// offset returns the cells of the grid around which, within a distance, some cells are in a set, or all of them.
func (w window) offset(c *cells, d int, all bool) *cells {
	var result cells
	for i := range side {
		for j := range side {
			some, every := false, true
			for k := i - d; k <= i+d; k++ {
				for l := j - d; l <= j+d; l++ {
					is := c.has(k, l)
					some, every = some || is, every && is
				}
			}
			result[i][j] = w.inGrid(i, j) && (all && every || !all && some)
		}
	}
	return &result
}

// gap returns the least distance of two sets, less 1, but at least 0, and whether there is one.
func gap(a, b *cells) (int, bool) {
	least := side + 1
	for i := range side * side {
		for j := range side * side {
			x, y, u, v := i/side, i%side, j/side, j%side
			if a[x][y] && b[u][v] {
				least = min(least, max(x-u, u-x, y-v, v-y))
			}
		}
	}
	if least > side {
		return 0, false
	}
	return max(least-1, 0), true
}

// small returns the set of 16 cells, 4 wide and 4 high, that has those whose bits are 1. It lies in a corner of the
// cells within the margin.
func small(bits int, right, upper bool) *cells {
	var c cells
	i0, j0 := margin, margin
	if right {
		i0 = side - margin - 4
	}
	if upper {
		j0 = side - margin - 4
	}
	for bit := range 16 {
		c[i0+bit/4][j0+bit%4] = bits>>bit&1 == 1
	}
	return &c
}

// some returns a set within the margin that has each cell with a probability that differs from set to set.
func some(random *rand.Rand) *cells {
	var c cells
	dense := random.Intn(33)
	for i := margin; i < side-margin; i++ {
		for j := margin; j < side-margin; j++ {
			c[i][j] = random.Intn(32) < dense
		}
	}
	return &c
}

// checkOffsets fails the test unless Grow and Shrink find the cells of the definition.
func (w window) checkOffsets(t *testing.T, c *cells, d int) {
	t.Helper()
	a := w.region(c)
	got, e := Grow(a, d)
	check(t, []any{"Grow", a, d}, got, e, w.region(w.offset(c, d, false)), api.OK)
	got, e = Shrink(a, d)
	check(t, []any{"Shrink", a, d}, got, e, w.region(w.offset(c, d, true)), api.OK)
}

// P8.1: all sets of 16 cells at the borders of the grid and within it, and random ones of 64.
func TestOffsetModel(t *testing.T) {
	random := rand.New(rand.NewSource(1))
	for n := range 1 << 16 {
		windows()[n%5].checkOffsets(t, small(n, n%5 == 1 || n%5 == 3, n%5 == 1 || n%5 == 2), n%3)
	}
	for n := range 10000 {
		windows()[n%5].checkOffsets(t, some(random), random.Intn(margin+1))
	}
}

// P8.1: full squares without a few cells, where much is left by Shrink.
func TestHoleModel(t *testing.T) {
	random := rand.New(rand.NewSource(2))
	for n := range 10000 {
		w := windows()[n%5]
		var c cells
		for i := range side {
			for j := range side {
				c[i][j] = w.inGrid(i, j)
			}
		}
		for range 1 + random.Intn(7) {
			c[random.Intn(side)][random.Intn(side)] = false
		}
		a, d := w.region(&c), random.Intn(margin+1)
		got, e := Shrink(a, d)
		check(t, []any{"Shrink", a, d}, got, e, w.region(w.offset(&c, d, true)), api.OK)
	}
}

// P8.2: the gaps of random sets, and of sets of few cells.
func TestGapModel(t *testing.T) {
	random := rand.New(rand.NewSource(3))
	for n := range 3000 {
		w, a, b := windows()[n%5], some(random), some(random)
		if n%2 == 0 {
			a, b = small(1<<random.Intn(16)|1<<random.Intn(16), false, n%4 == 0), small(1<<random.Intn(16)&random.Intn(1<<16), n%3 == 0, true)
		}
		want, is := gap(a, b)
		if got, has := Gap(w.region(a), w.region(b)); got != want || has != is {
			t.Fatal(w.region(a), w.region(b), got, has, want, is)
		}
	}
}

// somewhere returns a region with up to most rectangles, of a scale that differs from region to region, and the
// rectangles of which it was made.
func somewhere(random *rand.Rand, most int) (a, l []api.Rect) {
	scale := 1 << random.Intn(18)
	side := min(3+random.Intn(30), end/scale)
	number := func() (int, int) {
		from := random.Intn(side)
		return from * scale, min(from+1+random.Intn(1+random.Intn(side)), side) * scale
	}
	for range random.Intn(most + 1) {
		x0, x1 := number()
		y0, y1 := number()
		next := list(x0, y0, x1, y1)
		if random.Intn(5) == 0 {
			next = list(end-x1, end-y1, end-x0, end-y0)
		}
		// One more rectangle may make too many.
		b, e := region.Of(append(next, a...))
		if e == api.OK {
			a, l = b, append(l, next...)
		}
	}
	return a, l
}

// distance returns a valid distance that means something for a region: about as great as its rectangles are, or any.
func distance(random *rand.Rand, a []api.Rect) int {
	if len(a) == 0 || random.Intn(9) == 0 {
		return random.Intn(end + 1)
	}
	r := a[random.Intn(len(a))]
	d := []int{r.X1 - r.X0, r.Y1 - r.Y0, (r.X1 - r.X0) / 2, (r.Y1 - r.Y0) / 2, (r.Y1 - r.Y0) / 4}[random.Intn(5)]
	return max(0, min(d+random.Intn(3)-1, end))
}

// sample returns a cell that lies about as far as a distance from a corner of one of the rectangles, or anywhere.
func sample(random *rand.Rand, l []api.Rect, d int) (x, y int) {
	if len(l) == 0 || random.Intn(9) == 0 {
		return random.Intn(end), random.Intn(end)
	}
	r, s := l[random.Intn(len(l))], l[random.Intn(len(l))]
	x = []int{r.X0 - d, r.X0 + d, r.X1 - d, r.X1 + d}[random.Intn(4)] + random.Intn(3) - 1
	y = []int{s.Y0 - d, s.Y0 + d, s.Y1 - d, s.Y1 + d}[random.Intn(4)] + random.Intn(3) - 1
	return max(0, min(x, end-1)), max(0, min(y, end-1))
}

// P8.1: which cells are in the results, for regions anywhere in the grid.
func TestCells(t *testing.T) {
	random := rand.New(rand.NewSource(4))
	grown, shrunk := 0, 0
	for range 6000 {
		a, l := somewhere(random, 30)
		d := distance(random, a)
		g, isG := Grow(a, d)
		s, isS := Shrink(a, d)
		if isG == api.OK && !region.Right(g) || isS == api.OK && !region.Right(s) {
			t.Fatal(a, d, g, s)
		}
		for range 20 {
			x, y := sample(random, l, d)
			far := func(r api.Rect) int { return max(r.X0-x, x-r.X1+1, r.Y0-y, y-r.Y1+1) }
			near := slices.ContainsFunc(l, func(r api.Rect) bool { return far(r) <= d })
			if isG == api.OK && region.Has(g, x, y) != near {
				t.Fatal("Grow", a, d, x, y, near)
			}
			around, isA := region.Common(a, list(max(x-d, 0), max(y-d, 0), min(x+d+1, end), min(y+d+1, end)))
			inside := isA == api.OK && region.Area(around) == (2*d+1)*(2*d+1)
			if isA == api.OK && isS == api.OK && region.Has(s, x, y) != inside {
				t.Fatal("Shrink", a, d, x, y, inside)
			}
			if near {
				grown++
			}
			if inside {
				shrunk++
			}
		}
	}
	if grown < 9000 || shrunk < 9000 {
		t.Error("too few cells were in the results", grown, shrunk)
	}
}

// P8.4: two steps, forwards or backwards, are as good as one.
func TestSteps(t *testing.T) {
	random := rand.New(rand.NewSource(5))
	compared := [2]int{}
	for range 6000 {
		a, _ := somewhere(random, 25)
		whole := distance(random, a)
		d := random.Intn(whole + 1)
		for i, f := range []func(a []api.Rect, d int) ([]api.Rect, api.Errno){Grow, Shrink} {
			one, is := f(a, whole)
			half, isHalf := f(a, d)
			two, isTwo := f(half, whole-d)
			if is != api.OK || isHalf != api.OK || isTwo != api.OK {
				continue
			}
			if !slices.Equal(one, two) {
				t.Fatal(i, a, whole, d, one, two)
			}
			if len(one) > 0 && d > 0 && d < whole {
				compared[i]++
			}
		}
	}
	if compared[0] < 3000 || compared[1] < 400 {
		t.Error("too few steps were compared", compared)
	}
}

// P8.4: the greatest distance in two steps, and regions of all kinds in many.
func TestManySteps(t *testing.T) {
	for _, a := range regions() {
		for i, f := range []func(a []api.Rect, d int) ([]api.Rect, api.Errno){Grow, Shrink} {
			step, e := a, api.OK
			for d := 1; d <= 9 && e == api.OK; d++ {
				step, e = f(step, 1)
				one, is := f(a, d)
				if e == api.OK && is == api.OK && !slices.Equal(step, one) {
					fail(t, []any{i, a, d}, step, one)
				}
			}
			all, e := f(a, end)
			for _, d := range []int{0, 1, 9, end / 2, end - 1, end} {
				one, is := f(a, d)
				two, isTwo := f(one, end-d)
				if is == api.OK && (isTwo != e || !slices.Equal(two, all)) {
					fail(t, []any{i, a, d}, isTwo, two, all)
				}
			}
		}
	}
}

// lies reports whether all cells of b are in a.
func lies(t *testing.T, b, a []api.Rect) bool {
	t.Helper()
	rest, e := region.Minus(b, a)
	// What has too many rectangles is not empty.
	if e != api.OK && e != api.ErrFull {
		t.Fatal(b, a, e)
	}
	return e == api.OK && len(rest) == 0
}

// awayFromBorder returns the cells of a region that are at least d cells away from the border of the grid.
func awayFromBorder(b []api.Rect, d int) []api.Rect {
	if 2*d >= end {
		return nil
	}
	inner, _ := region.Common(b, list(d, d, end-d, end-d))
	return inner
}

// P8.5: what is grown lies in a region exactly if what is not grown lies in the shrunk one, away from the border.
func TestGrowInShrink(t *testing.T) {
	random := rand.New(rand.NewSource(6))
	met := map[bool]int{}
	for range 9000 {
		a, _ := somewhere(random, 20)
		d := random.Intn(distance(random, a) + 1)
		s, isS := Shrink(a, d)
		if isS != api.OK {
			continue
		}
		opened, isO := Grow(s, d)
		if isO == api.OK && !lies(t, opened, a) {
			t.Fatal(a, d, s, opened)
		}
		b, _ := somewhere(random, 4)
		switch random.Intn(3) {
		case 0:
			b, _ = region.Common(b, s)
		case 1:
			// A cell that is just in it, or just not.
			x, y := sample(random, append(slices.Clone(s), a...), random.Intn(2)*d)
			b = cell(x, y)
		}
		b = awayFromBorder(b, d)
		g, isG := Grow(b, d)
		if isG != api.OK || len(b) == 0 {
			continue
		}
		in := lies(t, g, a)
		if in != lies(t, b, s) {
			t.Fatal(a, b, d, in)
		}
		met[in]++
	}
	if met[true] < 400 || met[false] < 400 {
		t.Error("too few regions were compared", met)
	}
}

// P8.5: the same of all sets of 16 cells and each cell, in the window that lies within the grid.
func TestGrowInShrinkModel(t *testing.T) {
	w := windows()[4]
	for n := 0; n < 1<<16; n += 7 {
		a := w.region(small(n, false, false))
		s, _ := Shrink(a, 1)
		opened, _ := Grow(s, 1)
		if !lies(t, opened, a) {
			t.Fatal(a, s, opened)
		}
		for i := range 16 {
			b := cell(w.x+margin+i/4, w.y+margin+i%4)
			g, _ := Grow(b, 1)
			if lies(t, g, a) != lies(t, b, s) {
				t.Fatal(a, b)
			}
		}
	}
}

// P8.6: a gap is at most d exactly if one more than d reaches the other region; the order does not matter.
func TestGapGrow(t *testing.T) {
	random := rand.New(rand.NewSource(7))
	met := map[bool]int{}
	for range 6000 {
		a, _ := somewhere(random, 12)
		b, _ := somewhere(random, 12)
		gap, is := Gap(a, b)
		other, isOther := Gap(b, a)
		if gap != other || is != isOther || is != (len(a) > 0 && len(b) > 0) {
			t.Fatal(a, b, gap, is, other, isOther)
		}
		if !is {
			continue
		}
		for _, d := range []int{gap - 2, gap - 1, gap, gap + 1, gap / 2, 2 * gap, random.Intn(end)} {
			if d < 0 || d+1 > end {
				continue
			}
			for _, p := range [][2][]api.Rect{{a, b}, {b, a}} {
				g, e := Grow(p[0], d+1)
				c, f := region.Common(g, p[1])
				if e != api.OK {
					continue
				}
				meets := f == api.ErrFull || len(c) > 0
				if meets != (gap <= d) {
					t.Fatal(a, b, gap, d)
				}
				met[meets]++
			}
		}
	}
	if met[true] < 9000 || met[false] < 3000 {
		t.Error("too few gaps were compared", met)
	}
}

// P8.6: the same of regions of all kinds.
func TestGapGrowKinds(t *testing.T) {
	for _, a := range regions() {
		for _, b := range regions() {
			gap, is := Gap(a, b)
			for _, d := range []int{gap - 1, gap, gap + 1} {
				g, e := Grow(a, d+1)
				if !is || d < 0 || e != api.OK {
					continue
				}
				c, f := region.Common(g, b)
				if (f == api.ErrFull || len(c) > 0) != (gap <= d) {
					fail(t, []any{a, b, d}, gap, c)
				}
			}
		}
	}
}

// behind returns a copy of a list that has other rectangles behind its end.
func behind(l []api.Rect) []api.Rect {
	return append(slices.Clone(l), list(1, 1, 9, 9, -1, 0, 0, 0, 3, 3, 4, 4)...)[:len(l)]
}

// spoil overwrites what a list has, and what it has room for.
func spoil(l []api.Rect) {
	l = l[:cap(l)]
	for i := range l {
		l[i] = api.Rect{X0: -7, Y0: -7, X1: -7, Y1: -7}
	}
}

// results has what all functions return for two lists, regions or not, and a number.
func results(a, b []api.Rect, d int) (regions [][]api.Rect, indices []int, others []any) {
	g, isG := Grow(a, d)
	s, isS := Shrink(a, d)
	h, isH := Grow(a, 0)
	r, isR := Shrink(a, 0)
	gap, is := Gap(a, b)
	// The list of lists ends before its last element, which is near to everything.
	l := [][]api.Rect{b, a, nil, b, list(0, 0, end, end)}[:4]
	indices = Within(a, l, d)
	return [][]api.Rect{g, s, h, r}, indices, []any{isG, isS, isH, isR, gap, is, len(l[2]), slices.Equal(l[0], b), slices.Equal(l[1], a), slices.Equal(l[3], b)}
}

// checkPure fails the test if a call changes its arguments, looks behind their ends, or shares memory with anything.
func checkPure(t *testing.T, a, b []api.Rect, d int) {
	t.Helper()
	first, near, said := results(slices.Clone(a), slices.Clone(b), d)
	for i, l := range first {
		first[i] = slices.Clone(l)
	}
	near = slices.Clone(near)
	fullA, fullB := behind(a), behind(b)
	got, nearAgain, again := results(fullA, fullB, d)
	if !slices.EqualFunc(first, got, slices.Equal) || !slices.Equal(said, again) || !slices.Equal(near, nearAgain) {
		fail(t, []any{a, b, d}, got, again, nearAgain, "not", first, said, near)
	}
	// Whatever is written into a result, and behind it, changes nothing else.
	for i, l := range got {
		spoil(l)
		for j := i + 1; j < len(got); j++ {
			if !slices.Equal(got[j], first[j]) {
				fail(t, []any{a, b, d}, "results share memory", i, j)
			}
		}
	}
	if !slices.Equal(fullA[:len(a)+3], behind(a)[:len(a)+3]) || !slices.Equal(fullB[:len(b)+3], behind(b)[:len(b)+3]) {
		fail(t, []any{a, b, d}, "changed to", fullA[:len(a)+3], fullB[:len(b)+3])
	}
	// And whatever is written into an argument later changes no result.
	fullA, fullB = behind(a), behind(b)
	got, nearAgain, _ = results(fullA, fullB, d)
	spoil(fullA)
	spoil(fullB)
	if !slices.EqualFunc(first, got, slices.Equal) || !slices.Equal(near, nearAgain) {
		fail(t, []any{a, b, d}, "results share memory with arguments")
	}
}

// P8.3: the functions change nothing and share nothing, for regions, for other lists, and for random ones.
func TestPure(t *testing.T) {
	for _, a := range append(regions(), notRegions()...) {
		for _, b := range [][]api.Rect{a, nil, frame(9, 3), list(0, 0, end, end), list(3, 3, 3, 4), posts(201, 1, 1, 1)} {
			for _, d := range []int{0, 1, 2, end, -1} {
				checkPure(t, a, b, d)
				checkPure(t, b, a, d)
			}
		}
	}
	random := rand.New(rand.NewSource(8))
	for range 1000 {
		a, l := somewhere(random, 9)
		b, _ := somewhere(random, 9)
		checkPure(t, a, b, distance(random, a))
		checkPure(t, l, b, distance(random, a))
	}
}

// P8.3: lists of lists are not changed either, and may have the same list several times.
func TestWithinPure(t *testing.T) {
	a := frame(9, 3)
	l := [][]api.Rect{a, a, cell(4, 4), nil, a[:1], a[1:2], a[:0]}
	if got := Within(a, l, 0); !slices.Equal(got, []int{0, 1, 4, 5}) {
		t.Error(got)
	}
	if got := Within(a, l, 1); !slices.Equal(got, []int{0, 1, 2, 4, 5}) {
		t.Error(got)
	}
	if !slices.EqualFunc(l, [][]api.Rect{frame(9, 3), frame(9, 3), cell(4, 4), nil, list(0, 0, 3, 9), list(3, 0, 6, 3), {}}, slices.Equal) {
		t.Error(l)
	}
}

// The rectangles of a grown region are those of the rectangles that are grown one by one, however it is cut.
func TestGrowPieces(t *testing.T) {
	random := rand.New(rand.NewSource(9))
	for range 3000 {
		a, l := somewhere(random, 20)
		d := distance(random, a)
		var pieces []api.Rect
		for _, r := range l {
			piece, _ := rect.Grow(r, d)
			pieces = append(pieces, piece)
		}
		want, is := region.Of(pieces)
		got, e := Grow(a, d)
		check(t, []any{"Grow", a, d}, got, e, want, is)
	}
}
