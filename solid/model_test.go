package solid

import (
	"math/rand"
	"slices"
	"testing"

	"greenbelt/api"
	"greenbelt/region"
)

// These tests follow the definitions of the chapter cube by cube, in small windows at the borders of the grid and of the
// heights and within them, and compare solids of all sizes with the laws of sets.

// window is a part of space, 4 cubes wide, deep and high, from (x, y, z) on; forms remembers the forms of its cells.
type window struct {
	x, y, z int
	forms   map[uint16][]api.Rect
}

// cubes is a set of cubes of a window: the bit 16 * k + 4 * i + j says that it has the cube in the column i, the row j
// and the height k.
type cubes uint64

// windows lie at corners of the grid, at the bottom and at the top, and within it.
func windows() []window {
	var l []window
	for _, at := range [][3]int{{0, 0, 0}, {end - 4, end - 4, sky - 4}, {0, end - 4, sky - 4}, {end - 4, 0, 0}, {1 << 19, 77, 999}} {
		l = append(l, window{at[0], at[1], at[2], map[uint16][]api.Rect{}})
	}
	return l
}

// has reports whether a set has a cube; it has none outside of the window.
func (c cubes) has(i, j, k int) bool {
	return 0 <= i && i < 4 && 0 <= j && j < 4 && 0 <= k && k < 4 && c>>(16*k+4*i+j)&1 == 1
}

// layer returns the cells of a height.
func (c cubes) layer(k int) uint16 { return uint16(c >> (16 * k)) }

// count returns the number of cubes.
func (c cubes) count() (n int) {
	for ; c != 0; c &= c - 1 {
		n++
	}
	return n
}

// area returns the region of the cells of a height.
func (w window) area(cells uint16) []api.Rect {
	if _, is := w.forms[cells]; !is {
		var l []api.Rect
		for bit := range 16 {
			if cells>>bit&1 == 1 {
				l = append(l, list(w.x+bit/4, w.y+bit%4, w.x+bit/4+1, w.y+bit%4+1)...)
			}
		}
		w.forms[cells], _ = region.Of(l)
	}
	return w.forms[cells]
}

// form is the definition: the layers in ascending order, with the forms of their cross-sections.
func (w window) form(c cubes) []api.Slab {
	var s []api.Slab
	for k, from := 1, 0; k <= 4; k++ {
		if k < 4 && c.layer(k) == c.layer(from) {
			continue
		}
		if cells := c.layer(from); cells != 0 {
			s = append(s, over(w.z+from, w.z+k, w.area(cells)))
		}
		from = k
	}
	return s
}

// of returns the cubes of a list of valid boxes in a window.
func (w window) of(l []api.Box) (c cubes) {
	for _, b := range l {
		for z := b.Z0; z < b.Z1; z++ {
			for x := b.Base.X0; x < b.Base.X1; x++ {
				for y := b.Base.Y0; y < b.Base.Y1; y++ {
					c |= 1 << (16*(z-w.z) + 4*(x-w.x) + y - w.y)
				}
			}
		}
	}
	return c
}

// sets returns all sets of cubes of a block in a corner of a window, of the given size.
func sets(wide, deep, high int, upper bool) []cubes {
	i0, j0, k0 := 0, 0, 0
	if upper {
		i0, j0, k0 = 4-wide, 4-deep, 4-high
	}
	l := make([]cubes, 1<<(wide*deep*high))
	for n := range l {
		for bit := range wide * deep * high {
			i, j, k := bit%wide, bit/wide%deep, bit/wide/deep
			l[n] |= cubes(n>>bit&1) << (16*(k0+k) + 4*(i0+i) + j0 + j)
		}
	}
	return l
}

// someCubes returns a set of a window in which each cube is with a probability that differs from set to set, and in
// which some layers are equal.
func someCubes(random *rand.Rand) (c cubes) {
	dense := random.Intn(9)
	var last uint16
	for k := range 4 {
		if k == 0 || random.Intn(3) > 0 {
			last = 0
			for bit := range 16 {
				if random.Intn(8) < dense {
					last |= 1 << bit
				}
			}
		}
		c |= cubes(last) << (16 * k)
	}
	return c
}

// single returns a box for each cube, in any order.
func (w window) single(random *rand.Rand, c cubes) []api.Box {
	var l []api.Box
	for bit := range 64 {
		x, y, z := w.x+bit/4%4, w.y+bit%4, w.z+bit/16
		if c>>bit&1 == 1 {
			l = append(l, boxes(x, y, x+1, y+1, z, z+1)...)
		}
	}
	random.Shuffle(len(l), func(i, j int) { l[i], l[j] = l[j], l[i] })
	return l
}

// checkForm fails the test unless all functions of one solid say what the definitions say of the cubes.
func (w window) checkForm(t *testing.T, random *rand.Rand, c cubes) {
	t.Helper()
	want := w.form(c)
	got, e := Of(w.single(random, c))
	check(t, []any{"Of", want}, got, e, want, api.OK)
	if !Right(want) || Volume(want) != c.count() {
		t.Fatal(want, Right(want), Volume(want))
	}
	for k := -1; k <= 4; k++ {
		var cells uint16
		if 0 <= k && k < 4 {
			cells = c.layer(k)
		}
		if s := Section(want, w.z+k); !slices.Equal(s, w.area(cells)) {
			t.Fatal(want, k, s)
		}
	}
	for i := -1; i <= 4; i++ {
		for j := -1; j <= 4; j++ {
			top := 0
			for k := -1; k <= 4; k++ {
				is := c.has(i, j, k)
				if Has(want, w.x+i, w.y+j, w.z+k) != is {
					t.Fatal(want, i, j, k, "not", is)
				}
				if is {
					top = w.z + k + 1
				}
			}
			if got := Top(want, w.x+i, w.y+j); got != top {
				t.Fatal(want, i, j, got, "not", top)
			}
		}
	}
	w.checkBoxes(t, c)
}

// checkBoxes fails the test unless the boxes are those of the slabs, have no common cubes, and become the solid again.
func (w window) checkBoxes(t *testing.T, c cubes) {
	t.Helper()
	s := w.form(c)
	var want []api.Box
	for _, l := range s {
		want = append(want, boxesOver(l.Area, l.Z0, l.Z1)...)
	}
	l := Boxes(s)
	if !slices.Equal(l, want) {
		t.Fatal(s, l, want)
	}
	var sum cubes
	for i := range l {
		if one := w.of(l[i : i+1]); sum&one == 0 {
			sum |= one
		} else {
			t.Fatal(s, l, "common cubes", i)
		}
	}
	got, e := Of(l)
	check(t, l, got, e, s, api.OK)
	if sum != c {
		t.Fatal(s, l)
	}
}

// P9.1, P9.3, P9.4, P9.7: all sets of 12 cubes at the borders of the windows, and random ones of 64.
func TestFormModel(t *testing.T) {
	random := rand.New(rand.NewSource(1))
	for i, w := range windows() {
		for _, size := range [][3]int{{2, 2, 3}, {3, 1, 4}, {1, 3, 4}} {
			for n, c := range sets(size[0], size[1], size[2], i%2 == 1) {
				if n%5 == i || size[0] == 2 {
					w.checkForm(t, random, c)
				}
			}
		}
		for range 2000 {
			w.checkForm(t, random, someCubes(random))
		}
	}
}

// all returns all valid boxes of a part of a window.
func (w window) all(wide, deep, high int) []api.Box {
	var l []api.Box
	for z0 := range high {
		for z1 := z0 + 1; z1 <= high; z1++ {
			for x0 := range wide {
				for x1 := x0 + 1; x1 <= wide; x1++ {
					for y0 := range deep {
						for y1 := y0 + 1; y1 <= deep; y1++ {
							l = append(l, boxes(w.x+x0, w.y+y0, w.x+x1, w.y+y1, w.z+z0, w.z+z1)...)
						}
					}
				}
			}
		}
	}
	return l
}

// P9.1: all lists of up to three boxes of a small block, and random longer ones.
func TestBoxModel(t *testing.T) {
	random := rand.New(rand.NewSource(2))
	w := windows()[4]
	compare := func(l ...api.Box) {
		got, e := Of(l)
		check(t, l, got, e, w.form(w.of(l)), api.OK)
	}
	all := w.all(2, 2, 3)
	for _, a := range all {
		compare(a)
		for _, b := range all {
			compare(a, b)
			compare(a, b, all[random.Intn(len(all))], a)
		}
	}
	all = w.all(2, 1, 3)
	for _, a := range all {
		for _, b := range all {
			for _, c := range all {
				compare(a, b, c)
			}
		}
	}
	for i, w := range windows() {
		all := w.all(4, 4, 4)
		for n := range 3000 {
			l := make([]api.Box, 1+random.Intn(12))
			if n%50 == i {
				l = make([]api.Box, 200)
			}
			for i := range l {
				l[i] = all[random.Intn(len(all))]
			}
			got, e := Of(l)
			check(t, l, got, e, w.form(w.of(l)), api.OK)
		}
	}
}

// change returns a list of slabs in which something was changed, so that it may be a solid or not.
func (w window) change(random *rand.Rand, s []api.Slab) []api.Slab {
	s = copied(s)
	if len(s) == 0 {
		return s
	}
	i, j := random.Intn(len(s)), random.Intn(len(s))
	switch random.Intn(8) {
	case 0:
		s[i].Z0 += random.Intn(3) - 1
	case 1:
		s[i].Z1 += random.Intn(3) - 1
	case 2:
		s[i].Area = slices.Clone(s[j].Area)
	case 3:
		s[i].Area = slices.Clone(w.area(uint16(random.Intn(1 << 16))))
	case 4:
		s[i], s[j] = s[j], s[i]
	case 5:
		s = slices.Insert(s, i, over(w.z+random.Intn(4), w.z+1+random.Intn(4), slices.Clone(s[j].Area)))
	case 6:
		s = slices.Delete(s, i, i+1)
	case 7:
		if n := len(s[i].Area); n > 0 {
			r := &s[i].Area[random.Intn(n)]
			*[]*int{&r.X0, &r.Y0, &r.X1, &r.Y1}[random.Intn(4)] += random.Intn(3) - 1
		}
	}
	return s
}

// isForm reports whether a list of slabs is the form of some cubes of a window, and whether that is known: it is not if
// some of them lie in the grid, but not in the window.
func (w window) isForm(s []api.Slab) (is, known bool) {
	between := func(low, from, to, high int) bool { return low <= from && from < to && to <= high }
	inside := true
	var l []api.Box
	for _, m := range s {
		if len(m.Area) == 0 || !between(0, m.Z0, m.Z1, sky) {
			return false, true
		}
		inside = inside && between(w.z, m.Z0, m.Z1, w.z+4)
		for _, r := range m.Area {
			if !between(0, r.X0, r.X1, end) || !between(0, r.Y0, r.Y1, end) {
				return false, true
			}
			inside = inside && between(w.x, r.X0, r.X1, w.x+4) && between(w.y, r.Y0, r.Y1, w.y+4)
		}
		l = append(l, boxesOver(m.Area, m.Z0, m.Z1)...)
	}
	return inside && equal(s, w.form(w.of(l))), inside
}

// P9.1: which lists of slabs are solids, found by changing solids.
func TestRightModel(t *testing.T) {
	random := rand.New(rand.NewSource(3))
	right := map[bool]int{}
	for _, w := range windows() {
		for n := range 10000 {
			s := w.change(random, w.form(someCubes(random)))
			if n%2 == 0 {
				s = w.change(random, s)
			}
			is, known := w.isForm(s)
			if !known {
				continue
			}
			if Right(s) != is {
				t.Fatal(s, Right(s))
			}
			right[is]++
		}
	}
	if right[true] < 10000 || right[false] < 10000 {
		t.Error("too few lists were compared", right)
	}
}

// checkSets fails the test unless the solids of two sets become those of their union, intersection and difference.
func (w window) checkSets(t *testing.T, a, b cubes) {
	t.Helper()
	sa, sb := w.form(a), w.form(b)
	for _, c := range []struct {
		f    op
		want cubes
	}{{Union, a | b}, {Common, a & b}, {Minus, a &^ b}} {
		if got, e := c.f(sa, sb); e != api.OK || !equal(got, w.form(c.want)) {
			t.Fatal(sa, sb, got, e, w.form(c.want))
		}
	}
	if Same(sa, sb) != (a == b) {
		t.Fatal("Same", sa, sb)
	}
}

// P9.2, P9.6: all pairs of sets of 8 cubes, and random pairs of sets of 64.
func TestSetsModel(t *testing.T) {
	random := rand.New(rand.NewSource(4))
	l := windows()
	for _, size := range [][3]int{{2, 2, 2}, {2, 1, 4}, {1, 2, 3}} {
		all := sets(size[0], size[1], size[2], false)
		for i, a := range all {
			for j, b := range all {
				l[(i+j)%5].checkSets(t, a, b)
			}
		}
	}
	for n := range 20000 {
		l[n%5].checkSets(t, someCubes(random), someCubes(random))
	}
}

// somewhere returns up to most valid boxes of a scale that differs from list to list, so that some meet.
func somewhere(random *rand.Rand, most int) []api.Box {
	scale, thick := 1<<random.Intn(18), 1<<random.Intn(9)
	side, high := min(3+random.Intn(12), end/scale), min(2+random.Intn(12), sky/thick)
	number := func(most, scale int) (int, int) {
		from := random.Intn(most)
		return from * scale, min(from+1+random.Intn(1+random.Intn(most)), most) * scale
	}
	l := make([]api.Box, random.Intn(most+1))
	for i := range l {
		x0, x1 := number(side, scale)
		y0, y1 := number(side, scale)
		z0, z1 := number(high, thick)
		l[i] = boxes(x0, y0, x1, y1, z0, z1)[0]
		if random.Intn(9) == 0 {
			l[i] = boxes(end-x1, end-y1, end-x0, end-y0, sky-z1, sky-z0)[0]
		}
	}
	return l
}

// laws calculates with solids until a result is too large, and counts the laws that it could check.
type laws struct {
	t       *testing.T
	checked int
}

// do returns the result of a call, unless an argument is the lack of one, and whether there is one.
func (s *laws) do(f op, a, b []api.Slab, are ...bool) ([]api.Slab, bool) {
	if slices.Contains(are, false) {
		return nil, false
	}
	got, e := f(a, b)
	if e == api.ErrFull && got == nil {
		return nil, false
	}
	if e != api.OK || !Right(got) {
		s.t.Fatal(a, b, got, e)
	}
	return got, true
}

// equal fails the test if there are two results, and they differ.
func (s *laws) equal(law string, a []api.Slab, isA bool, b []api.Slab, isB bool) {
	if !isA || !isB {
		return
	}
	s.checked++
	if !equal(a, b) {
		s.t.Fatal(law, a, b)
	}
}

// checkTwo checks the laws of two sets.
func (s *laws) checkTwo(a, b []api.Slab) {
	u, isU := s.do(Union, a, b)
	c, isC := s.do(Common, a, b)
	m, isM := s.do(Minus, a, b)
	v, isV := s.do(Union, b, a)
	s.equal("commutative", u, isU, v, isV)
	v, isV = s.do(Common, b, a)
	s.equal("commutative", c, isC, v, isV)
	v, isV = s.do(Union, m, c, isM, isC)
	s.equal("divided", v, isV, a, true)
	v, isV = s.do(Common, m, b, isM)
	s.equal("without", v, isV, nil, true)
	v, isV = s.do(Minus, u, b, isU)
	s.equal("added and taken", v, isV, m, isM)
	v, isV = s.do(Union, a, c, isC)
	s.equal("absorbed", v, isV, a, true)
	v, isV = s.do(Common, a, u, isU)
	s.equal("absorbed", v, isV, a, true)
	v, isV = s.do(Minus, a, a)
	s.equal("itself", v, isV, nil, true)
	if isU && isC && Volume(u)+Volume(c) != Volume(a)+Volume(b) {
		s.t.Fatal("volumes", a, b)
	}
	if isM && isC && Volume(m)+Volume(c) != Volume(a) {
		s.t.Fatal("volumes", a, b)
	}
}

// checkThree checks the laws of three sets.
func (s *laws) checkThree(a, b, c []api.Slab) {
	for i, f := range []op{Union, Common} {
		g := []op{Common, Union}[i]
		bc, isBC := s.do(f, b, c)
		ab, isAB := s.do(f, a, b)
		left, isLeft := s.do(f, ab, c, isAB)
		right, isRight := s.do(f, a, bc, isBC)
		s.equal("associative", left, isLeft, right, isRight)
		bc, isBC = s.do(g, b, c)
		ac, isAC := s.do(f, a, c)
		left, isLeft = s.do(f, a, bc, isBC)
		right, isRight = s.do(g, ab, ac, isAB, isAC)
		s.equal("distributive", left, isLeft, right, isRight)
		// De Morgan: what is in neither, and what is not in both.
		ab, isAB = s.do(Minus, a, b)
		ac, isAC = s.do(Minus, a, c)
		bc, isBC = s.do(f, b, c)
		left, isLeft = s.do(Minus, a, bc, isBC)
		right, isRight = s.do(g, ab, ac, isAB, isAC)
		s.equal("De Morgan", left, isLeft, right, isRight)
	}
}

// P9.6: the laws of sets hold for solids anywhere in the grid.
func TestLaws(t *testing.T) {
	random := rand.New(rand.NewSource(5))
	s := &laws{t: t}
	for range 1500 {
		var l [3][]api.Slab
		for i := range l {
			got, e := Of(somewhere(random, 10))
			if e != api.OK {
				t.Fatal(e)
			}
			l[i] = got
		}
		s.checkTwo(l[0], l[1])
		s.checkThree(l[0], l[1], l[2])
	}
	if s.checked < 15000 {
		t.Error("too few laws were checked", s.checked)
	}
}

// pieces cuts a box into up to eight, at any place within it.
func pieces(random *rand.Rand, b api.Box) []api.Box {
	split := func(from, to int) []int {
		if to-from < 2 || random.Intn(2) == 0 {
			return []int{from, to}
		}
		return []int{from, from + 1 + random.Intn(to-from-1), to}
	}
	xs, ys, zs := split(b.Base.X0, b.Base.X1), split(b.Base.Y0, b.Base.Y1), split(b.Z0, b.Z1)
	var l []api.Box
	for i := range len(xs) - 1 {
		for j := range len(ys) - 1 {
			for k := range len(zs) - 1 {
				l = append(l, boxes(xs[i], ys[j], xs[i+1], ys[j+1], zs[k], zs[k+1])...)
			}
		}
	}
	return l
}

// P9.6: it does not matter how a set was divided into boxes, in which order it was put together, and in how many steps.
func TestPutTogether(t *testing.T) {
	random := rand.New(rand.NewSource(6))
	for range 1500 {
		l := somewhere(random, 18)
		want, e := Of(l)
		var cut []api.Box
		for _, b := range l {
			cut = append(cut, pieces(random, b)...)
		}
		random.Shuffle(len(cut), func(i, j int) { cut[i], cut[j] = cut[j], cut[i] })
		got, f := Of(cut)
		check(t, []any{"in pieces", l}, got, f, want, e)
		var sum []api.Slab
		for len(cut) > 0 {
			n := 1 + random.Intn(len(cut))
			some, _ := Of(cut[:n])
			sum, f = Union(sum, some)
			if f != api.OK {
				break
			}
			cut = cut[n:]
		}
		if e == api.OK && f == api.OK {
			check(t, []any{"in steps", l}, sum, f, want, e)
		}
		// And what is taken away in pieces leaves nothing.
		for _, b := range l {
			one, _ := Of([]api.Box{b})
			sum, f = Minus(sum, one)
			if f != api.OK {
				break
			}
		}
		if f == api.OK && len(sum) > 0 {
			t.Fatal(l, sum)
		}
	}
}

// P9.4, P9.6: cubes are in a result by what they are in, also in solids of many boxes.
func TestCubes(t *testing.T) {
	random := rand.New(rand.NewSource(7))
	compared := 0
	for range 1000 {
		l, m := somewhere(random, 25), somewhere(random, 25)
		a, e := Of(l)
		b, f := Of(m)
		if e != api.OK || f != api.OK {
			continue
		}
		u, isU := Union(a, b)
		c, isC := Common(a, b)
		d, isD := Minus(a, b)
		for range 30 {
			x, y, z := random.Intn(end), random.Intn(end), random.Intn(sky)
			if near := slices.Concat(l, m); len(near) > 0 && random.Intn(5) > 0 {
				p, q, r := near[random.Intn(len(near))], near[random.Intn(len(near))], near[random.Intn(len(near))]
				x, y = []int{p.Base.X0 - 1, p.Base.X0, p.Base.X1 - 1, p.Base.X1}[random.Intn(4)], []int{q.Base.Y0 - 1, q.Base.Y0, q.Base.Y1 - 1, q.Base.Y1}[random.Intn(4)]
				z = []int{r.Z0 - 1, r.Z0, r.Z1 - 1, r.Z1}[random.Intn(4)]
			}
			over := func(b api.Box) bool { return b.Base.X0 <= x && x < b.Base.X1 && b.Base.Y0 <= y && y < b.Base.Y1 }
			in := func(b api.Box) bool { return over(b) && b.Z0 <= z && z < b.Z1 }
			inA, inB := slices.ContainsFunc(l, in), slices.ContainsFunc(m, in)
			top := 0
			for _, b := range l {
				if over(b) {
					top = max(top, b.Z1)
				}
			}
			if Has(a, x, y, z) != inA || Top(a, x, y) != top || region.Has(Section(a, z), x, y) != inA || isU == api.OK && Has(u, x, y, z) != (inA || inB) ||
				isC == api.OK && Has(c, x, y, z) != (inA && inB) || isD == api.OK && Has(d, x, y, z) != (inA && !inB) {
				t.Fatal(l, m, x, y, z)
			}
			compared++
		}
	}
	if compared < 20000 {
		t.Error("too few cubes were compared", compared)
	}
}

// P9.7: boxes have no common cubes, and become the solid again; the volume is the sum of the cross-sections.
func TestBoxesAgain(t *testing.T) {
	random := rand.New(rand.NewSource(8))
	all := solids()
	for range 1500 {
		s, _ := Of(somewhere(random, 12))
		all = append(all, s)
	}
	for n, s := range all {
		l := Boxes(s)
		if len(l) <= 200 {
			got, e := Of(l)
			check(t, []any{"again", s}, got, e, s, api.OK)
		}
		for i := range l[:min(len(l), 200)] {
			for _, b := range l[:i] {
				a := l[i]
				if max(a.Z0, b.Z0) < min(a.Z1, b.Z1) && max(a.Base.X0, b.Base.X0) < min(a.Base.X1, b.Base.X1) && max(a.Base.Y0, b.Base.Y0) < min(a.Base.Y1, b.Base.Y1) {
					t.Fatal(s, a, b)
				}
			}
		}
		if n%50 == 0 || n < 20 {
			sum := 0
			for z := range sky {
				sum += region.Area(Section(s, z))
			}
			if Volume(s) != sum {
				t.Fatal(s, Volume(s), sum)
			}
		}
	}
}

// behind returns a copy of a list, and of the areas in it, that has other elements behind each end.
func behind(s []api.Slab) []api.Slab {
	s = append(slices.Clone(s), slab(-1, 9, 1, 1, 9, 9), slab(0, 0), slab(7, 8, 3, 3, 4, 4))
	for i, l := range s {
		s[i].Area = append(slices.Clone(l.Area), list(1, 1, 9, 9, -1, 0, 0, 0, 3, 3, 4, 4)...)[:len(l.Area)]
	}
	return s[:len(s)-3]
}

// whole returns a list of slabs with what stands behind each end.
func whole(s []api.Slab) []api.Slab {
	s = slices.Clone(s[:len(s)+3])
	for i, l := range s {
		s[i].Area = l.Area[:len(l.Area)+3]
	}
	return s
}

// spoil overwrites what a list and its areas have, and what they have room for.
func spoil(s []api.Slab) {
	s = s[:cap(s)]
	for i := range s {
		spoilArea(s[i].Area)
		s[i] = slab(-7, -7, -7, -7, -7, -7)
	}
}

// spoilArea overwrites what a list has, and what it has room for.
func spoilArea(l []api.Rect) {
	l = l[:cap(l)]
	for i := range l {
		l[i] = api.Rect{X0: -7, Y0: -7, X1: -7, Y1: -7}
	}
}

// results has what all functions return for two lists, solids or not: the solids, the boxes and areas as slabs, so that
// all of them can be compared and spoiled, and the rest.
func results(a, b []api.Slab) (slabs [][]api.Slab, others []any) {
	for _, f := range []op{Union, Common, Minus} {
		for _, p := range [][2][]api.Slab{{a, b}, {b, a}, {a, a}} {
			got, e := f(p[0], p[1])
			slabs, others = append(slabs, got), append(others, e)
		}
	}
	for _, s := range a {
		slabs = append(slabs, pile(over(0, 0, Section(a, s.Z0))), pile(over(0, 0, Section(a, s.Z1-1))))
		others = append(others, Top(a, 1, 1), Has(a, 1, 1, s.Z0))
	}
	for _, x := range Boxes(a) {
		others = append(others, x)
	}
	return slabs, append(others, Right(a), Right(b), Volume(a), Top(a, 0, 0), Has(b, 0, 0, 0), Same(a, b), Same(a, a))
}

// checkPure fails the test if a call changes its arguments, looks behind their ends, or shares memory with anything.
func checkPure(t *testing.T, a, b []api.Slab) {
	t.Helper()
	first, said := results(copied(a), copied(b))
	for i, s := range first {
		first[i] = copied(s)
	}
	fullA, fullB := behind(a), behind(b)
	got, again := results(fullA, fullB)
	if !slices.EqualFunc(first, got, equal) || !slices.Equal(said, again) {
		fail(t, []any{a, b}, got, again, "not", first, said)
	}
	// Whatever is written into a part of a result, and behind it, changes nothing else.
	for i, s := range got {
		for k := range s {
			spoilArea(s[k].Area)
			if !equal(s[k+1:], first[i][k+1:]) {
				fail(t, []any{a, b}, "areas share memory", i, k)
			}
		}
		spoil(s)
		for j := i + 1; j < len(got); j++ {
			if !equal(got[j], first[j]) {
				fail(t, []any{a, b}, "results share memory", i, j)
			}
		}
	}
	if !equal(whole(fullA), whole(behind(a))) || !equal(whole(fullB), whole(behind(b))) {
		fail(t, []any{a, b}, "changed to", whole(fullA), whole(fullB))
	}
	// And whatever is written into an argument later changes no result.
	got, _ = results(fullA, fullB)
	spoil(fullA)
	spoil(fullB)
	if !slices.EqualFunc(first, got, equal) {
		fail(t, []any{a, b}, "results share memory with arguments")
	}
}

// P9.5: the functions are pure, for solids, for other lists, and for random ones.
func TestPure(t *testing.T) {
	for _, a := range append(solids(), notSolids()...) {
		if len(a) > 0 && len(a)*len(a[0].Area) > 2000 {
			continue
		}
		for _, b := range [][]api.Slab{nil, cube(0, 0, 0), pile(slab(0, sky, 0, 0, end, end)), pile(slab(1, 2, 0, 0, 2, 2)), pile(slab(3, 3, 0, 0, 1, 1))} {
			checkPure(t, a, b)
		}
		checkPure(t, a, a)
	}
	random := rand.New(rand.NewSource(9))
	for range 500 {
		a, _ := Of(somewhere(random, 6))
		b, _ := Of(somewhere(random, 6))
		checkPure(t, a, b)
	}
}

// P9.5: Of changes no list of boxes, reads nothing behind its end, and shares no memory with it, or between slabs.
func TestOfPure(t *testing.T) {
	random := rand.New(rand.NewSource(10))
	for n := range 2000 {
		l := somewhere(random, 9)
		if n%9 == 0 {
			l = append(l, boxes(0, 0, 0, 0, 0, 0)...)
		}
		want, e := Of(slices.Clone(l))
		want = copied(want)
		rest := boxes(0, 0, end, end, 0, sky, 0, 0, 0, 0, 0, 0)
		full := append(slices.Clone(l), rest...)
		got, f := Of(full[:len(l)])
		check(t, l, got, f, want, e)
		if !slices.Equal(full, append(slices.Clone(l), rest...)) {
			fail(t, l, "changed to", full)
		}
		clear(full)
		check(t, l, got, f, want, e)
		for k := range got {
			spoilArea(got[k].Area)
			if !equal(got[k+1:], want[k+1:]) {
				fail(t, l, "areas share memory", k)
			}
		}
		got, f = Of(l)
		check(t, l, got, f, want, e)
		boxed := Boxes(got)
		kept := slices.Clone(boxed)
		spoil(got)
		if !slices.Equal(boxed, kept) {
			fail(t, l, "boxes share memory")
		}
	}
}
