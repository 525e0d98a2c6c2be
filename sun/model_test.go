package sun

import (
	"math/rand"
	"slices"
	"testing"

	"greenbelt/api"
	"greenbelt/sight"
	"greenbelt/solid"
)

// These tests follow the definitions of the chapter in small windows at the borders of the grid and within it, ask layer 11
// for each ray, and compare masks of solids of all sizes with the laws of the chapter.

// plus returns the point p + k * d.
func plus(p, d api.Point3, k int) api.Point3 { return at(p.X+k*d.X, p.Y+k*d.Y, p.Z+k*d.Z) }

// numbers returns the coordinates of a point or a direction in an order that suits loops.
func numbers(p api.Point3) [3]int { return [3]int{p.X, p.Y, p.Z} }

// isValid reports whether a point is valid, as chapter 11 defines it.
func isValid(p api.Point3) bool {
	return p.X >= 0 && p.X <= end && p.Y >= 0 && p.Y <= end && p.Z >= 0 && p.Z <= sky
}

// set has the cubes of a window, which has 4 cubes in each direction.
type set uint64

// window is the cube from which on there are 4 in each direction.
type window struct{ x, y, z int }

// windows has corners of the grid, at the bottom and at the top, and places within it and at its sides.
func windows() []window {
	return []window{{0, 0, 0}, {end - 4, end - 4, sky - 4}, {0, end - 4, 0}, {end - 4, 0, sky - 4}, {700, 90000, 1000}, {0, 500, 2}, {end / 2, 1, sky - 4}}
}

// at returns a point of a window.
func (w window) at(p api.Point3) api.Point3 { return at(w.x+p.X, w.y+p.Y, w.z+p.Z) }

// of returns the solid of a set of cubes.
func (w window) of(c set) []api.Slab {
	var l []api.Box
	for i := range 64 {
		if x, y, z := w.x+i%4, w.y+i/4%4, w.z+i/16; c>>i&1 == 1 {
			l = append(l, boxes(x, y, x+1, y+1, z, z+1)...)
		}
	}
	return of(l)
}

// near returns a random valid point that is at most 3 from a window, as if it were the one at (0, 0, 0).
func (w window) near(random *rand.Rand) api.Point3 {
	for {
		p := at(random.Intn(11)-3, random.Intn(11)-3, random.Intn(11)-3)
		if isValid(w.at(p)) {
			return p
		}
	}
}

// met returns the cubes of the window at (0, 0, 0) in whose insides is p + t * d for some t > 0. It tries the multiples of a
// fraction that is so small that the point passes from cube to cube only at some of them, and there are others in between.
func met(p, d api.Point3) set {
	n := 2
	for _, c := range numbers(d) {
		n *= max(c, -c, 1)
	}
	var c set
	for t := 1; p.Z*n+t*d.Z < 4*n; t++ {
		i := 0
		for axis, size := range [3]int{1, 4, 16} {
			if at := numbers(p)[axis]*n + t*numbers(d)[axis]; at >= 0 && at < 4*n && i >= 0 {
				i += at / n * size
			} else {
				i = -1
			}
		}
		if i >= 0 {
			c |= 1 << i
		}
	}
	return c
}

// shown returns the mask of the directions in which the sun reaches a point past a set of cubes, as if its window were the
// one at (0, 0, 0): the definition.
func shown(l []api.Point3, c set, p api.Point3) int {
	mask := 0
	for i, d := range l {
		if met(p, d)&c == 0 {
			mask += 1 << i
		}
	}
	return mask
}

// someTable returns a valid table of any length with small directions, of which some may be equal.
func someTable(random *rand.Rand) []api.Point3 {
	l := make([]api.Point3, []int{random.Intn(25), 24}[random.Intn(2)])
	for i := range l {
		l[i] = at(random.Intn(7)-3, random.Intn(7)-3, 1+random.Intn(3))
	}
	return l
}

// someCubes returns a random set of cubes: few or many ones, or those of a box, or of two.
func someCubes(random *rand.Rand) set {
	c := set(random.Uint64())
	switch random.Intn(5) {
	case 0:
		c &= set(random.Uint64() & random.Uint64())
	case 1:
		c |= set(random.Uint64())
	case 2:
		c = someBox(random)
	case 3:
		c = someBox(random) ^ someBox(random)
	}
	return c
}

// someBox returns the cubes of a random box.
func someBox(random *rand.Rand) set {
	number := func() (int, int) {
		from := random.Intn(4)
		return from, from + random.Intn(4-from)
	}
	x0, x1 := number()
	y0, y1 := number()
	z0, z1 := number()
	var c set
	for i := range 64 {
		if x, y, z := i%4, i/4%4, i/16; x0 <= x && x <= x1 && y0 <= y && y <= y1 && z0 <= z && z <= z1 {
			c |= 1 << i
		}
	}
	return c
}

// P12.2: all points of a window and next to it, each single cube, and all small directions.
func TestCubeModel(t *testing.T) {
	var all []api.Point3
	for n := range 49 {
		all = append(all, at(n%7-3, n/7-3, 1+n%2))
	}
	kept := map[int]int{}
	for n := range 216 {
		p := at(n%6-1, n/6%6-1, n/36-1)
		for k := range 7 {
			w := windows()[k]
			if !isValid(w.at(p)) {
				continue
			}
			for j, l := range [][]api.Point3{all[:24], all[24:48], all[48:]} {
				i := (7*n + 11*j + 13*k) % 64
				mask := shown(l, 1<<i, p)
				check(t, n, l, w.of(1<<i), w.at(p), mask)
				kept[1<<len(l)-1-mask]++
			}
		}
	}
	if len(kept) < 50 || kept[0] < 500 {
		t.Error("too few masks", len(kept), kept[0])
	}
}

// P12.2, P12.3: random sets of cubes, and tables of all lengths, from points in and around a window.
func TestSetModel(t *testing.T) {
	random := rand.New(rand.NewSource(1))
	kept := map[int]int{}
	for n := range 4000 {
		w, l := windows()[n%7], someTable(random)
		a, b := someCubes(random), someCubes(random)
		if n%3 == 0 {
			b |= a
		}
		p := w.near(random)
		first, second := shown(l, a, p), shown(l, b, p)
		if n%4 == 0 {
			check(t, n, l, w.of(a), w.at(p), first)
		}
		s, u := w.of(a), w.of(b)
		if MaskOf(l, [][]api.Slab{s, u}, w.at(p)) != shown(l, a|b, p) || Lost(l, s, u, w.at(p)) != first&^second || Lost(l, u, s, w.at(p)) != second&^first || Hours(l, s, w.at(p)) != Count(first) {
			t.Fatal(l, s, u, w.at(p))
		}
		kept[Count(first)]++
		kept[100+Count(first&^second)]++
	}
	for n := range 12 {
		if kept[n] < 50 || kept[100+n] < 5 {
			t.Error("too few masks with", n, kept[n], kept[100+n])
		}
	}
}

// somewhere returns up to most valid boxes of a scale that differs from list to list, so that some meet.
func somewhere(random *rand.Rand, most int) []api.Box {
	scale, thick := 1<<random.Intn(18), 1<<random.Intn(9)
	side, high := min(3+random.Intn(12), end/scale), min(2+random.Intn(12), sky/thick)
	number := func(most, scale int) (int, int) {
		from := random.Intn(most)
		return from * scale, min(from+1+random.Intn(1+random.Intn(most)), most) * scale
	}
	l := make([]api.Box, 1+random.Intn(most))
	for i := range l {
		x0, x1 := number(side, scale)
		y0, y1 := number(side, scale)
		z0, z1 := number(high, thick)
		if random.Intn(3) == 0 {
			x1, y1, z1 = x0+1, y0+1, z0+1
		}
		l[i] = boxes(x0, y0, x1, y1, z0, z1)[0]
		if random.Intn(9) == 0 {
			l[i] = boxes(end-x1, end-y1, end-x0, end-y0, sky-z1, sky-z0)[0]
		}
	}
	return l
}

// target returns a point at the border of a box, or near it, or in its inside.
func target(random *rand.Rand, b api.Box) api.Point3 {
	number := func(from, to, most int) int {
		n := []int{from, to, to - 1, from + random.Intn(to-from)}[random.Intn(4)]
		if random.Intn(4) == 0 {
			n += random.Intn(3) - 1
		}
		return min(max(n, 0), most)
	}
	return at(number(b.Base.X0, b.Base.X1, end), number(b.Base.Y0, b.Base.Y1, end), number(b.Z0, b.Z1, sky))
}

// heading returns a direction of any size that may stand in a table, often with zeros, and with numbers that are equal or
// opposite.
func heading(random *rand.Rand) api.Point3 {
	scale, steep := 1<<random.Intn(13), 1<<random.Intn(13)
	d := at(random.Intn(2*scale+1)-scale, random.Intn(2*scale+1)-scale, 1+random.Intn(steep))
	switch random.Intn(6) {
	case 0:
		d.X = 0
	case 1:
		d.Y = 0
	case 2:
		d.Y = d.X
	case 3:
		d.X = -d.Y
	case 4:
		d.Z = max(d.X, -d.X, 1)
	}
	return d
}

// scene is a table, a point, and the boxes of a solid of any size around it.
type scene struct {
	l     []api.Point3
	p     api.Point3
	boxes []api.Box
}

// someScene returns a scene in which many of the directions lead from the point to the borders of the boxes.
func someScene(random *rand.Rand, most int) scene {
	c := scene{boxes: somewhere(random, most)}
	aim, d := target(random, c.boxes[0]), heading(random)
	c.p = aim
	for k := random.Intn(5); k > 0 && isValid(plus(c.p, d, -1)); k-- {
		c.p = plus(c.p, d, -1)
	}
	if random.Intn(5) == 0 {
		c.p = at(random.Intn(end+1), random.Intn(end+1), random.Intn(sky+1))
	}
	c.l = []api.Point3{d}
	for range random.Intn(24) {
		d = heading(random)
		if way := plus(target(random, c.boxes[random.Intn(len(c.boxes))]), c.p, -1); Right([]api.Point3{way}) && random.Intn(2) == 0 {
			d = way
		}
		c.l = append(c.l, d)
	}
	random.Shuffle(len(c.l), func(i, j int) { c.l[i], c.l[j] = c.l[j], c.l[i] })
	return c
}

// enters reports whether p + t * d is in the inside of a box for some t > 0. It tries the t at which the point passes a side
// of the box, and one after each of them and after 0 that is before the next one, all as multiples of the same fraction.
func enters(b api.Box, p, d api.Point3) bool {
	n := 2
	for _, c := range numbers(d) {
		n *= max(c, -c, 1)
	}
	from, to := [3]int{b.Base.X0, b.Base.Y0, b.Z0}, [3]int{b.Base.X1, b.Base.Y1, b.Z1}
	times := []int{1}
	for axis, c := range numbers(d) {
		if c != 0 {
			first, last := (from[axis]-numbers(p)[axis])*n/c, (to[axis]-numbers(p)[axis])*n/c
			times = append(times, first, first+1, last, last+1)
		}
	}
	return slices.ContainsFunc(times, func(t int) bool {
		if t <= 0 {
			return false
		}
		for axis, c := range numbers(p) {
			if c = c*n + t*numbers(d)[axis]; c < from[axis]*n || c >= to[axis]*n {
				return false
			}
		}
		return true
	})
}

// P12.2: solids of all sizes anywhere in the grid, box by box, and directions of all sizes; Mask is what layer 11 says of
// each direction.
func TestAnywhere(t *testing.T) {
	random := rand.New(rand.NewSource(2))
	kept := map[bool]int{}
	for range 8000 {
		c := someScene(random, 4)
		s, mask := of(c.boxes), 0
		for i, d := range c.l {
			is := !slices.ContainsFunc(c.boxes, func(b api.Box) bool { return enters(b, c.p, d) })
			if is {
				mask += 1 << i
			}
			if sight.Ray(s, c.p, d) == is {
				t.Fatal(s, c.p, d, "the model says", is)
			}
			kept[is]++
		}
		if Mask(c.l, s, c.p) != mask || Hours(c.l, s, c.p) != Count(mask) {
			t.Fatalf("%v %v %v: %b, not %b", c.l, s, c.p, Mask(c.l, s, c.p), mask)
		}
	}
	if kept[true] < 30000 || kept[false] < 20000 {
		t.Error("too few directions of a kind", kept)
	}
}

// P12.3, P12.5: MaskOf for some solids is what the masks of each of them have in common, the mask of their union, and the
// same in another order; Lost is what the mask of one has and the mask of the other one has not.
func TestUnion(t *testing.T) {
	random := rand.New(rand.NewSource(3))
	kept := map[string]int{}
	for n := range 5000 {
		c := someScene(random, 3)
		list := [][]api.Slab{of(c.boxes)}
		for range random.Intn(4) {
			list = append(list, [][]api.Slab{of(somewhere(random, 3)), nil, list[0], of(boxAround(random, c))}[random.Intn(4)])
		}
		if n%2 == 0 {
			w := windows()[n/2%7]
			c.l, c.p = someTable(random), w.at(w.near(random))
			for i := range list {
				list[i] = w.of(someCubes(random) & set(random.Uint64()))
			}
		}
		var u []api.Slab
		mask := 1<<len(c.l) - 1
		for _, s := range list {
			one := Mask(c.l, s, c.p)
			if Lost(c.l, u, s, c.p) != mask&^one || Lost(c.l, s, u, c.p) != one&^mask {
				t.Fatal(c, u, s)
			}
			kept["lost"] += Count(mask &^ one)
			mask &= one
			var e api.Errno
			if u, e = solid.Union(u, s); e != api.OK {
				t.Fatal(u, s, e)
			}
		}
		if MaskOf(c.l, list, c.p) != mask || Mask(c.l, u, c.p) != mask {
			t.Fatalf("%v %v: %b and %b, not %b", c, list, MaskOf(c.l, list, c.p), Mask(c.l, u, c.p), mask)
		}
		random.Shuffle(len(list), func(i, j int) { list[i], list[j] = list[j], list[i] })
		if MaskOf(c.l, list, c.p) != mask || MaskOf(c.l, append(list, u, nil), c.p) != mask {
			t.Fatal(c, list, "in another order")
		}
		kept["left"] += Count(mask)
	}
	if kept["lost"] < 10000 || kept["left"] < 10000 {
		t.Error("too few directions of a kind", kept)
	}
}

// boxAround returns a box near a place that the sun passes on its way to the point of a scene.
func boxAround(random *rand.Rand, c scene) []api.Box {
	q := plus(c.p, c.l[random.Intn(len(c.l))], random.Intn(3))
	x, y, z := min(max(q.X, 0), end-1), min(max(q.Y, 0), end-1), min(max(q.Z, 0), sky-1)
	return boxes(x, y, min(x+1+random.Intn(40), end), min(y+1+random.Intn(40), end), z, min(z+1+random.Intn(9), sky))
}

// P12.3, P12.5: a union that is no solid has no mask, but its parts have one together.
func TestNoUnion(t *testing.T) {
	var odd, even []api.Rect
	for i := range 200 {
		odd, even = append(odd, rect(4*i+1, 0, 4*i+2, 9)), append(even, rect(4*i+3, 0, 4*i+4, 9))
	}
	a, b := []api.Slab{slab(0, 9, odd...)}, []api.Slab{slab(0, 9, even...)}
	if _, e := solid.Union(a, b); e != api.ErrFull {
		t.Fatal(e)
	}
	l, p := table(1, 0, 1, -1, 0, 1, 0, 1, 1, 0, 0, 1), at(402, 3, 7)
	if Mask(l, a, p) != 13 || Mask(l, b, p) != 14 || MaskOf(l, [][]api.Slab{a, b}, p) != 12 || MaskOf(l, [][]api.Slab{b, a}, p) != 12 || Lost(l, a, b, p) != 1 || Lost(l, b, a, p) != 2 {
		t.Error(Mask(l, a, p), Mask(l, b, p), MaskOf(l, [][]api.Slab{a, b}, p))
	}
	high, low := floors(80, rect(0, 0, 9, 9)), cubes(5, 5, 500, 649, 5, 161)
	if _, e := solid.Union(high, low); e != api.ErrFull {
		t.Fatal(e)
	}
	l, p = table(0, 0, 1, 1, 0, 100, 4, 0, 1, 0, -6, 1), at(5, 5, 0)
	if Mask(l, high, p) != 12 || Mask(l, low, p) != 10 || MaskOf(l, [][]api.Slab{high, low}, p) != 8 || Lost(l, low, high, p) != 2 || Lost(l, high, low, p) != 4 {
		t.Error(Mask(l, high, p), Mask(l, low, p), MaskOf(l, [][]api.Slab{high, low}, p))
	}
}

// P12.5: a solid with more cubes has no more directions in its mask.
func TestMonotone(t *testing.T) {
	random := rand.New(rand.NewSource(4))
	kept := map[bool]int{}
	for n := range 6000 {
		c := someScene(random, 4)
		less, more := of(c.boxes[1:]), of(c.boxes)
		if n%2 == 0 {
			w, a := windows()[n/2%7], someCubes(random)
			less, more = w.of(a&set(random.Uint64())), w.of(a)
			c.l, c.p = someTable(random), w.at(w.near(random))
		}
		if Mask(c.l, more, c.p)&^Mask(c.l, less, c.p) != 0 || Hours(c.l, more, c.p) > Hours(c.l, less, c.p) || Lost(c.l, more, less, c.p) != 0 || Lost(c.l, less, more, c.p) != Mask(c.l, less, c.p)-Mask(c.l, more, c.p) || MaskOf(c.l, [][]api.Slab{less, more}, c.p) != Mask(c.l, more, c.p) {
			t.Fatal(c, less, more)
		}
		kept[Hours(c.l, more, c.p) < Hours(c.l, less, c.p)]++
	}
	if kept[true] < 1000 || kept[false] < 1000 {
		t.Error("too few pairs of a kind", kept)
	}
}

// P12.6: straight up the sun reaches a point exactly if the top over its cell is not above it; at the far sides of the grid
// there is no such cell, and nothing above.
func TestUp(t *testing.T) {
	random := rand.New(rand.NewSource(5))
	kept := map[bool]int{}
	l := table(1, 0, 1, 0, 0, 1, 0, 0, sky)
	compare := func(s []api.Slab, p api.Point3) {
		t.Helper()
		is := solid.Top(s, p.X, p.Y) <= p.Z
		if mask := Mask(l, s, p); mask>>1&1 == 1 != is || mask>>2&1 == 1 != is || Hours(l[1:2], s, p) == 1 != is {
			t.Fatal(s, p, !is)
		}
		kept[is]++
	}
	for n := range 3000 {
		c := someScene(random, 5)
		s := of(c.boxes)
		for range 5 {
			p := target(random, c.boxes[random.Intn(len(c.boxes))])
			compare(s, p)
			top := solid.Top(s, p.X, p.Y)
			for _, z := range []int{0, top - 1, top, top + 1, sky} {
				if z >= 0 && z <= sky {
					compare(s, at(p.X, p.Y, z))
				}
			}
		}
		w := windows()[n%7]
		s = w.of(someCubes(random))
		for range 20 {
			compare(s, w.at(w.near(random)))
		}
	}
	for _, p := range table(end, 5, 0, 5, end, 0, end, end, 0, end-1, end, sky-1, end, end-1, sky-1) {
		compare(everything(), p)
	}
	if kept[true] < 20000 || kept[false] < 10000 {
		t.Error("too few points of a kind", kept)
	}
}

// P12.6: a multiple of a direction gives the same result; one that is too large may not stand in a table.
func TestMultiples(t *testing.T) {
	random := rand.New(rand.NewSource(6))
	kept := map[int]int{}
	for range 6000 {
		c := someScene(random, 3)
		s := of(c.boxes)
		mask := Mask(c.l, s, c.p)
		more := slices.Clone(c.l)
		for i, d := range more {
			most := sky / max(d.X, -d.X, d.Y, -d.Y, d.Z)
			more[i] = plus(api.Point3{}, d, []int{1 + random.Intn(most), most, min(2, most)}[random.Intn(3)])
		}
		if Mask(more, s, c.p) != mask || Hours(more, s, c.p) != Count(mask) || MaskOf(more, [][]api.Slab{s}, c.p) != mask || Lost(more, nil, s, c.p) != Lost(c.l, nil, s, c.p) {
			t.Fatal(c, more)
		}
		kept[Count(mask)]++
		i := random.Intn(len(more))
		d := more[i]
		more[i] = plus(api.Point3{}, d, sky/max(d.X, -d.X, d.Y, -d.Y, d.Z)+1)
		if Right(more) || Mask(more, s, c.p) != 0 || Mask(more, nil, c.p) != 0 {
			t.Fatal(more)
		}
	}
	for n := range 15 {
		if kept[n] < 50 {
			t.Error("too few masks with", n, kept)
		}
	}
}

// P12.6: a point and a solid that are moved by the same integers give the same result.
func TestMoved(t *testing.T) {
	random := rand.New(rand.NewSource(7))
	kept := map[bool]int{}
	for n := range 6000 {
		c := someScene(random, 3)
		if n%2 == 0 {
			w := windows()[n/2%7]
			c = scene{someTable(random), w.at(w.near(random)), solid.Boxes(w.of(someCubes(random) & someCubes(random)))}
		}
		// How far all of it can be moved.
		low, high := c.p, c.p
		for _, b := range c.boxes {
			low = at(min(low.X, b.Base.X0), min(low.Y, b.Base.Y0), min(low.Z, b.Z0))
			high = at(max(high.X, b.Base.X1), max(high.Y, b.Base.Y1), max(high.Z, b.Z1))
		}
		mask := Mask(c.l, of(c.boxes), c.p)
		for range 4 {
			number := func(low, high, most int) int {
				return []int{-low, most - high, random.Intn(most-high+low+1) - low}[random.Intn(3)]
			}
			by := at(number(low.X, high.X, end), number(low.Y, high.Y, end), number(low.Z, high.Z, sky))
			var moved []api.Box
			for _, b := range c.boxes {
				moved = append(moved, boxes(b.Base.X0+by.X, b.Base.Y0+by.Y, b.Base.X1+by.X, b.Base.Y1+by.Y, b.Z0+by.Z, b.Z1+by.Z)...)
			}
			s, p := of(moved), plus(c.p, by, 1)
			if Mask(c.l, s, p) != mask || Hours(c.l, s, p) != Count(mask) || MaskOf(c.l, [][]api.Slab{nil, s}, p) != mask || Lost(c.l, nil, s, p) != 1<<len(c.l)-1-mask {
				t.Fatalf("%v moved by %v: %b, not %b", c, by, Mask(c.l, s, p), mask)
			}
			kept[by != api.Point3{} && mask != 1<<len(c.l)-1]++
		}
	}
	if kept[true] < 5000 {
		t.Error("too few moves", kept)
	}
}

// P12.6: the order of the directions in the table only moves the indices, and each direction speaks for itself alone.
func TestOrder(t *testing.T) {
	random := rand.New(rand.NewSource(8))
	moved := 0
	for range 4000 {
		c := someScene(random, 3)
		a, b := of(c.boxes), of(boxAround(random, c))
		order := random.Perm(len(c.l))
		l := make([]api.Point3, len(c.l))
		for i, j := range order {
			l[i] = c.l[j]
		}
		list := [][]api.Slab{a, b}
		first := [3]int{Mask(c.l, a, c.p), MaskOf(c.l, list, c.p), Lost(c.l, a, b, c.p)}
		second := [3]int{Mask(l, a, c.p), MaskOf(l, list, c.p), Lost(l, a, b, c.p)}
		for k := range first {
			var want, alone int
			for i, j := range order {
				want += first[k] >> j & 1 << i
				one := l[i : i+1]
				alone += [3]int{Mask(one, a, c.p), MaskOf(one, list, c.p), Lost(one, a, b, c.p)}[k] << i
			}
			if second[k] != want || second[k] != alone {
				t.Fatalf("%v %v: %b, not %b or %b", c, order, second[k], want, alone)
			}
		}
		if first != second {
			moved++
		}
		if Hours(l, a, c.p) != Hours(c.l, a, c.p) {
			t.Fatal(c, order)
		}
	}
	if moved < 1000 {
		t.Error("too few masks with other indices", moved)
	}
}

// behind returns a copy of a list, and of the areas in it, that has other elements behind each end.
func behind(s []api.Slab) []api.Slab {
	s = append(slices.Clone(s), slab(0, sky, rect(0, 0, end, end)), slab(7, 7))
	for i, m := range s {
		s[i].Area = append(slices.Clone(m.Area), rect(0, 0, end, end), rect(0, 0, 0, 0))[:len(m.Area)]
	}
	return s[:len(s)-2]
}

// whole returns a list with what stands behind each end.
func whole(s []api.Slab) []api.Slab {
	s = slices.Clone(s[:len(s)+2])
	for i, m := range s {
		s[i].Area = m.Area[:len(m.Area)+2]
	}
	return s
}

// results returns what all functions say of a table, two lists of slabs and a point.
func results(l []api.Point3, a, b []api.Slab, p api.Point3) [6]int {
	right := 0
	if Right(l) {
		right = 1
	}
	list := append([][]api.Slab{a, b, a}, everything())[:3]
	r := [6]int{right, Mask(l, a, p), MaskOf(l, list, p), Lost(l, a, b, p), Hours(l, a, p), Lost(l, b, a, p)}
	if !solid.Same(list[0], a) || !solid.Same(list[1], b) || !solid.Same(list[2], a) || !solid.Same(list[:4][3], everything()) {
		panic("changed")
	}
	return r
}

// P12.4: a call changes no argument, reads nothing behind an end, and says the same again, also when its arguments were used
// for something else in between.
func TestPure(t *testing.T) {
	random := rand.New(rand.NewSource(9))
	wrong, tables := notSolids(), notTables()
	wrong = wrong[:len(wrong)-2] // without the longest ones
	for n := range 4000 {
		c := someScene(random, 4)
		a, b := of(c.boxes), of(boxAround(random, c))
		switch n % 6 {
		case 0:
			a = wrong[n/6%len(wrong)]
		case 1:
			w := windows()[n/6%7]
			a, b, c.p = w.of(someCubes(random)), w.of(someCubes(random)), w.at(w.near(random))
		case 2:
			b = wrong[n/6%len(wrong)]
		case 3:
			c.l = tables[n/6%500]
		}
		want := results(c.l, a, b, c.p)
		l := append(slices.Clone(c.l), at(0, 0, 0), at(0, 0, 1))[:len(c.l)]
		s, u := behind(a), behind(b)
		kept, first, second := slices.Clone(l[:len(l)+2]), whole(behind(a)), whole(behind(b))
		for range 2 {
			if got := results(l, s, u, c.p); got != want {
				t.Fatal(c, a, b, got, want)
			}
			if !slices.Equal(l[:len(l)+2], kept) || !solid.Same(whole(s), first) || !solid.Same(whole(u), second) {
				t.Fatal(c, a, b, "changed to", l, s, u)
			}
		}
		clear(l)
		for i := range s {
			clear(s[i].Area)
		}
		clear(s)
		if len(l) > 0 && len(s) > 0 && results(l, s, u, c.p) != ([6]int{}) {
			t.Fatal("no table, no solid", l, s)
		}
		if got := results(c.l, a, b, c.p); got != want {
			t.Fatal(c, a, b, got, want)
		}
	}
}
