package region

import (
	"math/rand"
	"slices"
	"testing"

	"greenbelt/api"
)

// These tests follow the definitions of the chapter cell by cell, in small windows at the borders of the grid and
// within it, and compare regions of all sizes with the laws of sets.

// window is a part of the grid, 8 cells wide and high, from (x, y) on.
type window struct{ x, y int }

// cells is a set of cells of a window: the bit 8 * i + j says that it has the cell in the column i and the row j.
type cells uint64

// op is a function of two regions.
type op func(a, b []api.Rect) ([]api.Rect, api.Errno)

// windows lie at the corners of the grid and within it.
func windows() []window {
	return []window{{0, 0}, {end - 8, end - 8}, {0, end - 8}, {end - 8, 0}, {1 << 19, 77}}
}

// has reports whether a set has a cell; it has none outside of the window.
func (c cells) has(i, j int) bool { return 0 <= i && i < 8 && 0 <= j && j < 8 && c>>(8*i+j)&1 == 1 }

// column returns the rows of a column as bits.
func (c cells) column(i int) uint8 { return uint8(c >> (8 * i)) }

// count returns the number of cells.
func (c cells) count() (n int) {
	for ; c != 0; c &= c - 1 {
		n++
	}
	return n
}

// form is the definition: the slabs in ascending order, and in each of them the intervals.
func (w window) form(c cells) []api.Rect {
	var l []api.Rect
	for i, from := 1, 0; i <= 8; i++ {
		if i < 8 && c.column(i) == c.column(from) {
			continue
		}
		for j := range 8 {
			k := j
			for c.has(from, k) && !c.has(from, j-1) {
				k++
			}
			if k > j {
				l = append(l, list(w.x+from, w.y+j, w.x+i, w.y+k)...)
			}
		}
		from = i
	}
	return l
}

// of returns the cells of a list of valid rectangles in a window.
func (w window) of(l []api.Rect) (c cells) {
	for _, r := range l {
		for x := r.X0; x < r.X1; x++ {
			for y := r.Y0; y < r.Y1; y++ {
				c |= 1 << (8*(x-w.x) + y - w.y)
			}
		}
	}
	return c
}

// sets returns all sets of cells of a square in a corner of a window, on the sides of the window that are asked for.
func sets(side int, right, upper bool) []cells {
	i0, j0 := 0, 0
	if right {
		i0 = 8 - side
	}
	if upper {
		j0 = 8 - side
	}
	l := make([]cells, 1<<(side*side))
	for n := range l {
		for bit := range side * side {
			l[n] |= cells(n>>bit&1) << (8*(i0+bit/side) + j0 + bit%side)
		}
	}
	return l
}

// someCells returns a set of a window in which each cell is with a probability that differs from set to set.
func someCells(random *rand.Rand) (c cells) {
	dense := random.Intn(9)
	for bit := range 64 {
		if random.Intn(8) < dense {
			c |= 1 << bit
		}
	}
	return c
}

// checkForm fails the test unless all functions of one region say what the definitions say of the cells.
func (w window) checkForm(t *testing.T, random *rand.Rand, c cells) {
	t.Helper()
	want := w.form(c)
	var single []api.Rect
	for bit := range 64 {
		if c>>bit&1 == 1 {
			single = append(single, list(w.x+bit/8, w.y+bit%8, w.x+bit/8+1, w.y+bit%8+1)...)
		}
	}
	random.Shuffle(len(single), func(i, j int) { single[i], single[j] = single[j], single[i] })
	got, e := Of(single)
	check(t, single, got, e, want, api.OK)
	if !Right(want) || Area(want) != c.count() || Right(single) != slices.Equal(single, want) {
		t.Fatal(want, Right(want), Area(want), single, Right(single))
	}
	low, high := [2]int{8, 8}, [2]int{-1, -1}
	for i := -1; i <= 8; i++ {
		for j := -1; j <= 8; j++ {
			if Has(want, w.x+i, w.y+j) != c.has(i, j) {
				t.Fatal(want, i, j)
			}
			if c.has(i, j) {
				low, high = [2]int{min(low[0], i), min(low[1], j)}, [2]int{max(high[0], i), max(high[1], j)}
			}
		}
	}
	b, is := Bounds(want)
	if is != (c != 0) || is && b != list(w.x+low[0], w.y+low[1], w.x+high[0]+1, w.y+high[1]+1)[0] || !is && b != (api.Rect{}) {
		t.Fatal(want, b, is)
	}
}

// P6.1, P6.4: all sets of 16 cells at the borders of the windows, and random ones of 64.
func TestFormModel(t *testing.T) {
	random := rand.New(rand.NewSource(1))
	for n, c := range sets(4, false, false) {
		windows()[n%5].checkForm(t, random, c)
	}
	for n, c := range sets(4, true, true) {
		windows()[(n+1)%5].checkForm(t, random, c)
	}
	for n := range 20000 {
		windows()[n%5].checkForm(t, random, someCells(random))
	}
}

// all returns all valid rectangles of a part of a window.
func (w window) all(wide, high int) []api.Rect {
	var l []api.Rect
	for x0 := range wide {
		for x1 := x0 + 1; x1 <= wide; x1++ {
			for y0 := range high {
				for y1 := y0 + 1; y1 <= high; y1++ {
					l = append(l, list(w.x+x0, w.y+y0, w.x+x1, w.y+y1)...)
				}
			}
		}
	}
	return l
}

// P6.1: all lists of up to three rectangles, and random longer ones: what they become, and which are regions.
func TestListModel(t *testing.T) {
	random := rand.New(rand.NewSource(2))
	w := windows()[4]
	compare := func(l ...api.Rect) {
		want := w.form(w.of(l))
		got, e := Of(l)
		check(t, l, got, e, want, api.OK)
		if Right(l) != slices.Equal(l, want) {
			t.Fatal(l, Right(l), want)
		}
	}
	all := w.all(3, 4)
	for _, a := range all {
		compare(a)
		for _, b := range all {
			compare(a, b)
			for _, c := range all {
				compare(a, b, c)
			}
		}
	}
	all = w.all(8, 8)
	for range 20000 {
		l := make([]api.Rect, 1+random.Intn(30))
		for i := range l {
			l[i] = all[random.Intn(len(all))]
		}
		compare(l...)
		// A region of which one number is another one is a region only if it is the form of its cells.
		l = w.form(w.of(l))
		i := random.Intn(len(l))
		l[i] = all[random.Intn(len(all))]
		compare(l...)
	}
}

// checkSets fails the test unless the regions of two sets become those of their union, intersection and difference.
func (w window) checkSets(t *testing.T, a, b cells) {
	t.Helper()
	ra, rb := w.form(a), w.form(b)
	for _, c := range []struct {
		f    op
		want cells
	}{{Union, a | b}, {Common, a & b}, {Minus, a &^ b}} {
		if got, e := c.f(ra, rb); e != api.OK || !slices.Equal(got, w.form(c.want)) {
			t.Fatal(ra, rb, got, e, w.form(c.want))
		}
	}
	if Same(ra, rb) != (a == b) {
		t.Fatal("Same", ra, rb)
	}
}

// P6.2, P6.6: all pairs of sets of 9 cells, and random pairs of sets of 64.
func TestSetsModel(t *testing.T) {
	random := rand.New(rand.NewSource(3))
	for i, a := range sets(3, false, true) {
		for j, b := range sets(3, false, true) {
			windows()[(i+j)%5].checkSets(t, a, b)
		}
	}
	for n := range 20000 {
		windows()[n%5].checkSets(t, someCells(random), someCells(random))
	}
}

// P6.2: a shift moves each cell, if all of them stay in the grid.
func TestShiftModel(t *testing.T) {
	random := rand.New(rand.NewSource(4))
	for n := range 20000 {
		w := windows()[n%5]
		c := someCells(random) & someCells(random)
		dx, dy := random.Intn(17)-8, random.Intn(17)-8
		out := false
		var want []api.Rect
		for bit := range 64 {
			if x, y := w.x+bit/8+dx, w.y+bit%8+dy; c>>bit&1 == 1 {
				out = out || x < 0 || y < 0 || x >= end || y >= end
				want = append(want, list(x, y, x+1, y+1)...)
			}
		}
		is := api.OK
		if out {
			want, is = nil, api.ErrRange
		}
		want, _ = Of(want)
		got, e := Shift(w.form(c), dx, dy)
		check(t, []any{w.form(c), dx, dy}, got, e, want, is)
	}
}

// parts returns the sets of the cells that are connected, in the order of their first cells, which is that of the bits.
func (c cells) parts() []cells {
	var l []cells
	for c != 0 {
		part := c & -c
		for more := cells(0); more != part; {
			more = part
			for bit := range 64 {
				i, j := bit/8, bit%8
				if c.has(i, j) && (part.has(i-1, j) || part.has(i+1, j) || part.has(i, j-1) || part.has(i, j+1)) {
					part |= 1 << bit
				}
			}
		}
		l = append(l, part)
		c &^= part
	}
	return l
}

// checkParts fails the test unless the parts are those of the definition, and have the properties of P6.7.
func (w window) checkParts(t *testing.T, c cells) {
	t.Helper()
	a, want := w.form(c), c.parts()
	got := Parts(a)
	if len(got) != len(want) {
		t.Fatal(a, got)
	}
	var union []api.Rect
	for i, p := range got {
		if !slices.Equal(p, w.form(want[i])) {
			t.Fatal(a, got)
		}
		union, _ = Union(union, p)
	}
	if !slices.Equal(union, a) {
		t.Fatal(a, got, union)
	}
}

// P6.3, P6.7: all sets of 16 cells, and random ones of 64.
func TestPartsModel(t *testing.T) {
	random := rand.New(rand.NewSource(5))
	for n, c := range sets(4, true, false) {
		windows()[n%5].checkParts(t, c)
	}
	for n := range 3000 {
		windows()[n%5].checkParts(t, someCells(random))
	}
}

// somewhere returns up to most valid rectangles of a scale that differs from list to list, so that some meet.
func somewhere(random *rand.Rand, most int) []api.Rect {
	scale := 1 << random.Intn(18)
	side := min(3+random.Intn(30), end/scale)
	number := func() (int, int) {
		from := random.Intn(side)
		return from * scale, min(from+1+random.Intn(1+random.Intn(side)), side) * scale
	}
	l := make([]api.Rect, random.Intn(most+1))
	for i := range l {
		x0, x1 := number()
		y0, y1 := number()
		l[i] = list(x0, y0, x1, y1)[0]
		if random.Intn(9) == 0 {
			l[i] = list(end-x1, end-y1, end-x0, end-y0)[0]
		}
	}
	return l
}

// laws calculates with regions until a result has too many rectangles, and counts the laws that it could check.
type laws struct {
	t       *testing.T
	checked int
}

// do returns the result of a call, unless an argument is the lack of one, and whether there is one.
func (s *laws) do(f op, a, b []api.Rect, are ...bool) ([]api.Rect, bool) {
	if slices.Contains(are, false) {
		return nil, false
	}
	got, e := f(a, b)
	if e == api.ErrFull && got == nil {
		return nil, false
	}
	if e != api.OK || !Right(got) {
		s.t.Fatal(a, b, got, e)
	}
	return got, true
}

// equal fails the test if there are two results, and they differ.
func (s *laws) equal(law string, a []api.Rect, isA bool, b []api.Rect, isB bool) {
	if !isA || !isB {
		return
	}
	s.checked++
	if !slices.Equal(a, b) {
		s.t.Fatal(law, a, b)
	}
}

// checkTwo checks the laws of two sets.
func (s *laws) checkTwo(a, b []api.Rect) {
	u, isU := s.do(Union, a, b)
	c, isC := s.do(Common, a, b)
	m, isM := s.do(Minus, a, b)
	v, isV := s.do(Union, b, a)
	s.equal("commutative", u, isU, v, isV)
	v, isV = s.do(Common, b, a)
	s.equal("commutative", c, isC, v, isV)
	v, isV = s.do(Union, m, c, isM, isC)
	s.equal("divided", v, isV, a, true)
	v, isV = s.do(Common, m, b, isM)
	s.equal("without", v, isV, nil, true)
	v, isV = s.do(Minus, u, b, isU)
	s.equal("added and taken", v, isV, m, isM)
	v, isV = s.do(Union, a, c, isC)
	s.equal("absorbed", v, isV, a, true)
	v, isV = s.do(Common, a, u, isU)
	s.equal("absorbed", v, isV, a, true)
	v, isV = s.do(Minus, a, a)
	s.equal("itself", v, isV, nil, true)
	if isU && isC && Area(u)+Area(c) != Area(a)+Area(b) {
		s.t.Fatal("areas", a, b)
	}
	if isM && isC && Area(m)+Area(c) != Area(a) {
		s.t.Fatal("areas", a, b)
	}
}

// checkThree checks the laws of three sets.
func (s *laws) checkThree(a, b, c []api.Rect) {
	for i, f := range []op{Union, Common} {
		g := []op{Common, Union}[i]
		bc, isBC := s.do(f, b, c)
		ab, isAB := s.do(f, a, b)
		left, isLeft := s.do(f, ab, c, isAB)
		right, isRight := s.do(f, a, bc, isBC)
		s.equal("associative", left, isLeft, right, isRight)
		bc, isBC = s.do(g, b, c)
		ac, isAC := s.do(f, a, c)
		left, isLeft = s.do(f, a, bc, isBC)
		right, isRight = s.do(g, ab, ac, isAB, isAC)
		s.equal("distributive", left, isLeft, right, isRight)
		// De Morgan: what is in neither, and what is not in both.
		ab, isAB = s.do(Minus, a, b)
		ac, isAC = s.do(Minus, a, c)
		bc, isBC = s.do(f, b, c)
		left, isLeft = s.do(Minus, a, bc, isBC)
		right, isRight = s.do(g, ab, ac, isAB, isAC)
		s.equal("De Morgan", left, isLeft, right, isRight)
	}
}

// P6.6: the laws of sets hold for regions anywhere in the grid.
func TestLaws(t *testing.T) {
	random := rand.New(rand.NewSource(6))
	s := &laws{t: t}
	for range 4000 {
		var regions [3][]api.Rect
		for i := range regions {
			l := somewhere(random, 12)
			got, e := Of(l)
			random.Shuffle(len(l), func(i, j int) { l[i], l[j] = l[j], l[i] })
			again, f := Of(append(l, l...))
			if e != f || !slices.Equal(got, again) {
				t.Fatal(l, got, again)
			}
			regions[i] = got
		}
		s.checkTwo(regions[0], regions[1])
		s.checkThree(regions[0], regions[1], regions[2])
	}
	if s.checked < 40000 {
		t.Error("too few laws were checked", s.checked)
	}
}

// P6.6: cells are in a result by what they are in, also in regions with many rectangles.
func TestCells(t *testing.T) {
	random := rand.New(rand.NewSource(7))
	full := 0
	for range 2000 {
		l, m := somewhere(random, 60), somewhere(random, 60)
		a, e := Of(l)
		b, f := Of(m)
		if e != api.OK || f != api.OK {
			full++
			continue
		}
		u, isU := Union(a, b)
		c, isC := Common(a, b)
		d, isD := Minus(a, b)
		for range 30 {
			x, y := random.Intn(end), random.Intn(end)
			if near := append(slices.Clone(l), m...); len(near) > 0 && random.Intn(5) > 0 {
				r, s := near[random.Intn(len(near))], near[random.Intn(len(near))]
				x, y = []int{r.X0 - 1, r.X0, r.X1 - 1, r.X1}[random.Intn(4)], []int{s.Y0 - 1, s.Y0, s.Y1 - 1, s.Y1}[random.Intn(4)]
			}
			in := func(r api.Rect) bool { return r.X0 <= x && x < r.X1 && r.Y0 <= y && y < r.Y1 }
			inA, inB := slices.ContainsFunc(l, in), slices.ContainsFunc(m, in)
			if Has(a, x, y) != inA || isU == api.OK && Has(u, x, y) != (inA || inB) ||
				isC == api.OK && Has(c, x, y) != (inA && inB) || isD == api.OK && Has(d, x, y) != (inA && !inB) {
				t.Fatal(l, m, x, y)
			}
		}
	}
	if full > 1000 {
		t.Error("too few regions were compared", full)
	}
}

// P6.7: the parts of regions anywhere in the grid have no cells in common and are no neighbors; their union is the region.
func TestPartsApart(t *testing.T) {
	random := rand.New(rand.NewSource(8))
	for range 3000 {
		a, _ := Of(somewhere(random, 25))
		parts := Parts(a)
		var union []api.Rect
		for i, p := range parts {
			union, _ = Union(union, p)
			if !Right(p) || len(Parts(p)) != 1 || i > 0 && !before(parts[i-1][0], p[0]) {
				t.Fatal(a, parts)
			}
			for _, q := range parts[:i] {
				if meet(p, q) {
					t.Fatal(a, p, q)
				}
			}
		}
		if !slices.Equal(union, a) {
			t.Fatal(a, parts)
		}
	}
}

// before reports whether the first cell of one rectangle stands before that of another one.
func before(r, s api.Rect) bool { return r.X0 < s.X0 || r.X0 == s.X0 && r.Y0 < s.Y0 }

// meet reports whether two lists of rectangles have a cell in common, or cells that are neighbors.
func meet(p, q []api.Rect) bool {
	for _, r := range p {
		for _, s := range q {
			x, y := min(r.X1, s.X1)-max(r.X0, s.X0), min(r.Y1, s.Y1)-max(r.Y0, s.Y0)
			if x >= 0 && y >= 0 && x+y > 0 {
				return true
			}
		}
	}
	return false
}

// results has what all functions return for two lists, regions or not.
func results(a, b []api.Rect) (regions [][]api.Rect, others []any) {
	for _, f := range []op{Union, Common, Minus, func(a, _ []api.Rect) ([]api.Rect, api.Errno) { return Of(a) },
		func(a, b []api.Rect) ([]api.Rect, api.Errno) { return Shift(a, len(b), 2) },
		func(a, b []api.Rect) ([]api.Rect, api.Errno) { return Shift(a, 0, 0) }} {
		got, e := f(a, b)
		regions, others = append(regions, got), append(others, e)
	}
	r, is := Bounds(a)
	return append(regions, Parts(a)...), append(others, r, is, Right(a), Area(a), Has(a, 1, 1), Same(a, b), len(Parts(a)))
}

// behind returns a copy of a list that has other rectangles behind its end.
func behind(l []api.Rect) []api.Rect {
	return append(slices.Clone(l), list(1, 1, 9, 9, -1, 0, 0, 0, 3, 3, 4, 4)...)[:len(l)]
}

// checkPure fails the test if a call changes its arguments, looks behind their ends, or shares memory with anything.
func checkPure(t *testing.T, a, b []api.Rect) {
	t.Helper()
	first, said := results(slices.Clone(a), slices.Clone(b))
	for i, l := range first {
		first[i] = slices.Clone(l)
	}
	fullA, fullB := behind(a), behind(b)
	got, again := results(fullA, fullB)
	if !slices.EqualFunc(first, got, slices.Equal) || !slices.Equal(said, again) {
		fail(t, []any{a, b}, got, again, "not", first, said)
	}
	// Whatever is written into a result, and behind it, changes nothing else.
	for i, l := range got {
		l = l[:cap(l)]
		for k := range l {
			l[k] = api.Rect{X0: -7, Y0: -7, X1: -7, Y1: -7}
		}
		for j := i + 1; j < len(got); j++ {
			if !slices.Equal(got[j], first[j]) {
				fail(t, []any{a, b}, "results share memory", i, j)
			}
		}
	}
	if !slices.Equal(fullA[:len(a)+3], behind(a)[:len(a)+3]) || !slices.Equal(fullB[:len(b)+3], behind(b)[:len(b)+3]) {
		fail(t, []any{a, b}, "changed to", fullA[:len(a)+3], fullB[:len(b)+3])
	}
	// And whatever is written into an argument later changes no result.
	fullA, fullB = behind(a), behind(b)
	got, _ = results(fullA, fullB)
	for _, l := range [][]api.Rect{fullA, fullB} {
		for k := range l {
			l[k] = api.Rect{X0: -7, Y0: -7, X1: -7, Y1: -7}
		}
	}
	if !slices.EqualFunc(first, got, slices.Equal) {
		fail(t, []any{a, b}, "results share memory with arguments")
	}
}

// P6.5: the functions are pure, for regions, for other lists, and for random ones.
func TestPure(t *testing.T) {
	for _, a := range append(regions(), notRegions()...) {
		for _, b := range [][]api.Rect{a, nil, ring(), list(0, 0, end, end), list(0, 0, 2, 2), list(3, 3, 3, 4), dots(201, 0)} {
			checkPure(t, a, b)
			checkPure(t, b, a)
		}
	}
	random := rand.New(rand.NewSource(9))
	for range 2000 {
		a, _ := Of(somewhere(random, 9))
		b, _ := Of(somewhere(random, 9))
		checkPure(t, a, b)
		checkPure(t, somewhere(random, 5), a)
	}
}
