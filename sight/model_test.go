package sight

import (
	"math/rand"
	"slices"
	"testing"

	"greenbelt/api"
	"greenbelt/solid"
)

// numbers returns the coordinates of a point or a direction in an order that suits loops.
func numbers(p api.Point3) [3]int { return [3]int{p.X, p.Y, p.Z} }

// plus returns the point p + k * d.
func plus(p, d api.Point3, k int) api.Point3 { return at(p.X+k*d.X, p.Y+k*d.Y, p.Z+k*d.Z) }

// isValid reports whether a point is valid, as the chapter defines it.
func isValid(p api.Point3) bool {
	return p.X >= 0 && p.X <= end && p.Y >= 0 && p.Y <= end && p.Z >= 0 && p.Z <= sky
}

// set has the cubes of a window, which has 4 cubes in each direction.
type set uint64

// window is the cube from which on there are 4 in each direction, at a corner of the grid or within it.
type window struct{ x, y, z int }

// windows has corners of the grid, and places within it and at its sides.
func windows() []window {
	return []window{{0, 0, 0}, {end - 4, end - 4, sky - 4}, {0, end - 4, 0}, {end - 4, 0, sky - 4}, {700, 90000, 1000}, {0, 500, 2}, {end / 2, 1, sky - 4}}
}

// at returns a point of a window.
func (w window) at(p api.Point3) api.Point3 { return at(w.x+p.X, w.y+p.Y, w.z+p.Z) }

// of returns the solid of a set of cubes.
func (w window) of(c set) []api.Slab {
	var l []api.Box
	for i := range 64 {
		if x, y, z := w.x+i%4, w.y+i/4%4, w.z+i/16; c>>i&1 == 1 {
			l = append(l, boxes(x, y, x+1, y+1, z, z+1)...)
		}
	}
	return of(l)
}

// each returns the solids of all single cubes of a window.
func (w window) each() [64][]api.Slab {
	var l [64][]api.Slab
	for i := range l {
		l[i] = w.of(1 << i)
	}
	return l
}

// parts returns a number of parts into which a unit of t has to be cut, so that a coordinate of p + t * d is an integer only
// at the end of such a part, and there are parts that end between two of these t.
func parts(d api.Point3) int {
	n := 1
	for _, c := range numbers(d) {
		if c != 0 && n%c != 0 {
			n *= max(c, -c)
		}
	}
	return 2 * n
}

// met returns the cubes of the window at (0, 0, 0) in whose insides is p + t * d for a t of from, from + 1, .. to - 1, each
// divided by n.
func met(p, d api.Point3, from, to, n int) set {
	var c set
	for t := from; t < to; t++ {
		i := 0
		for axis, size := range [3]int{1, 4, 16} {
			at := numbers(p)[axis]*n + t*numbers(d)[axis]
			if at < 0 || at >= 4*n {
				i = -1
				break
			}
			i += at / n * size
		}
		if i >= 0 {
			c |= 1 << i
		}
	}
	return c
}

// onSegment returns the cubes of the window at (0, 0, 0) that block a segment, found by trying.
func onSegment(p, q api.Point3) set {
	d := plus(q, p, -1)
	n := parts(d)
	return met(p, d, 1, n, n)
}

// onRay returns the cubes of the window at (0, 0, 0) that a ray meets, found by trying; it begins at most far units from
// each of them.
func onRay(p, d api.Point3, far int) set {
	n := parts(d)
	return met(p, d, 1, far*n+1, n)
}

// someCubes returns a random set of cubes: few or many ones, or a box, or two.
func someCubes(random *rand.Rand) set {
	c := set(random.Uint64())
	switch random.Intn(5) {
	case 0:
		c &= set(random.Uint64() & random.Uint64())
	case 1:
		c |= set(random.Uint64())
	case 2:
		c = someBox(random)
	case 3:
		c = someBox(random) ^ someBox(random)
	}
	return c
}

// someBox returns the cubes of a random box.
func someBox(random *rand.Rand) set {
	number := func() (int, int) {
		from := random.Intn(4)
		return from, from + random.Intn(4-from)
	}
	x0, x1 := number()
	y0, y1 := number()
	z0, z1 := number()
	var c set
	for i := range 64 {
		if x, y, z := i%4, i/4%4, i/16; x0 <= x && x <= x1 && y0 <= y && y <= y1 && z0 <= z && z <= z1 {
			c |= 1 << i
		}
	}
	return c
}

// corner returns the point of a window with an index from 0 to 124.
func corner(i int) api.Point3 { return at(i%5, i/5%5, i/25) }

// P11.1, P11.5: all segments between corners of a window, and each of its cubes.
func TestBlockedModel(t *testing.T) {
	kept := map[bool]int{}
	for n := range 125 * 125 {
		p, q := corner(n%125), corner(n/125)
		want := onSegment(p, q)
		w := windows()[n%7]
		for i := range set(64) {
			x, y, z := w.x+int(i%4), w.y+int(i/4%4), w.z+int(i/16)
			s := []api.Slab{slab(z, z+1, rect(x, y, x+1, y+1))}
			is := want>>i&1 == 1
			if Blocked(s, w.at(p), w.at(q)) != is {
				t.Fatal(s, w.at(p), w.at(q), !is)
			}
			kept[is]++
		}
	}
	if kept[true] < 20000 || kept[false] < 500000 {
		t.Error("too few segments of a kind", kept)
	}
}

// P11.1, P11.5: sets of cubes, and segments that may begin and end outside of the window.
func TestBlockedSets(t *testing.T) {
	random := rand.New(rand.NewSource(1))
	kept := map[bool]int{}
	for range 4000 {
		w := windows()[random.Intn(7)]
		c := someCubes(random)
		s := w.of(c)
		for range 40 {
			p, q := nearby(random, w), nearby(random, w)
			is := onSegment(p, q)&c != 0
			if Blocked(s, w.at(p), w.at(q)) != is {
				t.Fatal(s, w.at(p), w.at(q), !is)
			}
			kept[is]++
		}
	}
	if kept[true] < 20000 || kept[false] < 20000 {
		t.Error("too few segments of a kind", kept)
	}
}

// nearby returns a random valid point that is at most 3 from a window, as if it were the one at (0, 0, 0).
func nearby(random *rand.Rand, w window) api.Point3 {
	for {
		p := at(random.Intn(11)-3, random.Intn(11)-3, random.Intn(11)-3)
		if isValid(w.at(p)) {
			return p
		}
	}
}

// P11.2, P11.5: all rays from the corners of a window in small directions, and each of its cubes.
func TestRayModel(t *testing.T) {
	kept := map[bool]int{}
	each := [7][64][]api.Slab{}
	for i, w := range windows() {
		each[i] = w.each()
	}
	for n := range 125 * 343 {
		p, d := corner(n%125), at(n/125%7-3, n/125/7%7-3, n/125/49-3)
		want := onRay(p, d, 5)
		if d == (api.Point3{}) {
			want = 0
		}
		for i, s := range each[n%7] {
			is := want>>i&1 == 1
			if Ray(s, windows()[n%7].at(p), d) != is {
				t.Fatal(s, windows()[n%7].at(p), d, !is)
			}
			kept[is]++
		}
	}
	if kept[true] < 30000 || kept[false] < 1000000 {
		t.Error("too few rays of a kind", kept)
	}
}

// P11.2, P11.5: sets of cubes, rays that may begin outside of the window, and larger directions.
func TestRaySets(t *testing.T) {
	random := rand.New(rand.NewSource(2))
	kept := map[bool]int{}
	for range 4000 {
		w := windows()[random.Intn(7)]
		c := someCubes(random)
		s := w.of(c)
		for range 30 {
			p, d := nearby(random, w), at(random.Intn(13)-6, random.Intn(13)-6, random.Intn(13)-6)
			is := onRay(p, d, 8)&c != 0 && d != (api.Point3{})
			if Ray(s, w.at(p), d) != is {
				t.Fatal(s, w.at(p), d, !is)
			}
			kept[is]++
		}
	}
	if kept[true] < 10000 || kept[false] < 10000 {
		t.Error("too few rays of a kind", kept)
	}
}

// fraction is the number n/d, which is beyond all numbers if d is 0.
type fraction struct{ n, d int }

// order compares fractions.
func order(a, b fraction) int { return a.n*b.d - b.n*a.d }

// between returns a number between two fractions.
func between(a, b fraction) fraction { return fraction{a.n + b.n, a.d + b.d} }

// isIn reports whether p + t * d is in the inside of a box, as the chapter defines it.
func isIn(b api.Box, p, d api.Point3, t fraction) bool {
	from, to := [3]int{b.Base.X0, b.Base.Y0, b.Z0}, [3]int{b.Base.X1, b.Base.Y1, b.Z1}
	for axis, c := range numbers(p) {
		// The coordinate, multiplied by the denominator of t.
		c = c*t.d + t.n*numbers(d)[axis]
		if c < from[axis]*t.d || c >= to[axis]*t.d {
			return false
		}
	}
	return true
}

// enters reports whether p + t * d is in the inside of one of some boxes for a t that is greater than 0 and less than a
// limit. It tries all t at which the point passes a side of a box, and a t between each two of them.
func enters(l []api.Box, p, d api.Point3, limit fraction) bool {
	for _, b := range l {
		from, to := [3]int{b.Base.X0, b.Base.Y0, b.Z0}, [3]int{b.Base.X1, b.Base.Y1, b.Z1}
		times := []fraction{{0, 1}, limit}
		for axis, c := range numbers(d) {
			for _, side := range []int{from[axis], to[axis]} {
				if t := (fraction{side - numbers(p)[axis], c}); c < 0 {
					times = append(times, fraction{-t.n, -t.d})
				} else if c > 0 {
					times = append(times, t)
				}
			}
		}
		times = slices.DeleteFunc(times, func(t fraction) bool { return order(t, fraction{0, 1}) < 0 || order(t, limit) > 0 })
		slices.SortFunc(times, order)
		for i := 1; i < len(times); i++ {
			a, z := times[i-1], times[i]
			inside := order(fraction{0, 1}, z) < 0 && order(z, limit) < 0
			if inside && isIn(b, p, d, z) || order(a, z) < 0 && isIn(b, p, d, between(a, z)) {
				return true
			}
		}
	}
	return false
}

// somewhere returns up to most valid boxes of a scale that differs from list to list, so that some meet.
func somewhere(random *rand.Rand, most int) []api.Box {
	scale, thick := 1<<random.Intn(18), 1<<random.Intn(9)
	side, high := min(3+random.Intn(12), end/scale), min(2+random.Intn(12), sky/thick)
	number := func(most, scale int) (int, int) {
		from := random.Intn(most)
		return from * scale, min(from+1+random.Intn(1+random.Intn(most)), most) * scale
	}
	l := make([]api.Box, 1+random.Intn(most))
	for i := range l {
		x0, x1 := number(side, scale)
		y0, y1 := number(side, scale)
		z0, z1 := number(high, thick)
		if random.Intn(3) == 0 {
			x1, y1, z1 = x0+1, y0+1, z0+1
		}
		l[i] = boxes(x0, y0, x1, y1, z0, z1)[0]
		if random.Intn(9) == 0 {
			l[i] = boxes(end-x1, end-y1, end-x0, end-y0, sky-z1, sky-z0)[0]
		}
	}
	return l
}

// target returns a point at the border of a box, or near it, or in its inside.
func target(random *rand.Rand, b api.Box) api.Point3 {
	number := func(from, to, most int) int {
		n := []int{from, to, to - 1, from + random.Intn(to-from)}[random.Intn(4)]
		if random.Intn(4) == 0 {
			n += random.Intn(3) - 1
		}
		return min(max(n, 0), most)
	}
	return at(number(b.Base.X0, b.Base.X1, end), number(b.Base.Y0, b.Base.Y1, end), number(b.Z0, b.Z1, sky))
}

// anyPoint returns a point anywhere in the grid, or at one of its sides.
func anyPoint(random *rand.Rand) api.Point3 {
	number := func(most int) int {
		return []int{0, most, random.Intn(most + 1), random.Intn(most + 1)}[random.Intn(4)]
	}
	return at(number(end), number(end), number(sky))
}

// heading returns a direction of any size, often with zeros, and with numbers that are equal or opposite.
func heading(random *rand.Rand) api.Point3 {
	scale, flat := 1<<random.Intn(20), 1<<random.Intn(12)
	for {
		d := at(random.Intn(2*scale+1)-scale, random.Intn(2*scale+1)-scale, random.Intn(2*flat+1)-flat)
		switch random.Intn(6) {
		case 0:
			d.X = 0
		case 1:
			d.Y, d.Z = 0, d.Z*random.Intn(2)
		case 2:
			d.Z = 0
		case 3:
			d.Y = d.X
		case 4:
			d.X = -d.Y
		}
		if d != (api.Point3{}) {
			return d
		}
	}
}

// reach returns the greatest k, at most most, for which p + k * d is valid, where k has the sign of step.
func reach(p, d api.Point3, step, most int) int {
	k := 0
	for k < most && isValid(plus(p, d, step*(k+1))) {
		k++
	}
	return step * k
}

// line returns a segment that comes near a box: through a point at its border, in any direction, or between any points.
func line(random *rand.Rand, b api.Box) (p, q api.Point3) {
	switch random.Intn(4) {
	case 0:
		return anyPoint(random), target(random, b)
	case 1:
		return anyPoint(random), anyPoint(random)
	}
	c, d := target(random, b), heading(random)
	p, q = plus(c, d, reach(c, d, -1, random.Intn(4))), plus(c, d, reach(c, d, 1, random.Intn(4)))
	return p, q
}

// P11.1: segments of all sizes past boxes of all sizes, anywhere in the grid, in both directions.
func TestBlockedAnywhere(t *testing.T) {
	random := rand.New(rand.NewSource(3))
	kept := map[bool]int{}
	for range 15000 {
		l := somewhere(random, 3)
		s := of(l)
		for range 10 {
			p, q := line(random, l[random.Intn(len(l))])
			is := enters(l, p, plus(q, p, -1), fraction{1, 1})
			if Blocked(s, p, q) != is || Blocked(s, q, p) != is {
				t.Fatal(s, p, q, !is)
			}
			kept[is]++
		}
	}
	if kept[true] < 30000 || kept[false] < 30000 {
		t.Error("too few segments of a kind", kept)
	}
}

// P11.2: rays in all directions from anywhere in the grid, many of them to the borders of boxes.
func TestRayAnywhere(t *testing.T) {
	random := rand.New(rand.NewSource(4))
	kept := map[bool]int{}
	for range 15000 {
		l := somewhere(random, 3)
		s := of(l)
		for range 10 {
			c, d := target(random, l[random.Intn(len(l))]), heading(random)
			p := plus(c, d, reach(c, d, -1, random.Intn(5)))
			if random.Intn(4) == 0 {
				p = anyPoint(random)
				d = plus(c, p, -1)
			}
			if random.Intn(20) == 0 {
				d.Z = random.Intn(2*end+1) - end
			}
			is := enters(l, p, d, fraction{1, 0}) && d != (api.Point3{})
			if Ray(s, p, d) != is {
				t.Fatal(s, p, d, !is)
			}
			kept[is]++
		}
	}
	if kept[true] < 30000 || kept[false] < 30000 {
		t.Error("too few rays of a kind", kept)
	}
}

// P11.1, P11.2: the two models agree with each other.
func TestModels(t *testing.T) {
	random := rand.New(rand.NewSource(5))
	for range 3000 {
		w := windows()[0]
		c := someCubes(random)
		l := solid.Boxes(w.of(c))
		p, q := nearby(random, w), nearby(random, w)
		d := plus(q, p, -1)
		if enters(l, p, d, fraction{1, 1}) != (onSegment(p, q)&c != 0) || p != q && enters(l, p, d, fraction{1, 0}) != (onRay(p, d, 8)&c != 0) {
			t.Fatal(l, p, q)
		}
	}
}

// P11.4: a union blocks a segment, or meets a ray, exactly if one of the two solids does; P11.1: it does not matter which of
// the ends of a segment comes first, or into which boxes a solid is cut.
func TestUnion(t *testing.T) {
	random := rand.New(rand.NewSource(6))
	blocked, rays := map[[2]bool]int{}, map[[2]bool]int{}
	for n := range 20000 {
		l, m := somewhere(random, 4), somewhere(random, 4)
		p, q := line(random, slices.Concat(l, m)[random.Intn(len(l)+len(m))])
		a, b := of(l), of(m)
		if n%2 == 0 {
			w := windows()[n/2%7]
			a, b = w.of(someCubes(random)), w.of(someCubes(random)&set(random.Uint64()))
			p, q = w.at(nearby(random, w)), w.at(nearby(random, w))
		}
		u, e := solid.Union(a, b)
		if e != api.OK {
			t.Fatal(a, b, e)
		}
		is := [2]bool{Blocked(a, p, q), Blocked(b, p, q)}
		if Blocked(u, p, q) != (is[0] || is[1]) || Blocked(u, q, p) != (is[0] || is[1]) {
			t.Fatal(a, b, p, q, is)
		}
		blocked[is]++
		d := plus(q, p, -1)
		is = [2]bool{Ray(a, p, d), Ray(b, p, d)}
		if Ray(u, p, d) != (is[0] || is[1]) {
			t.Fatal(a, b, p, d, is)
		}
		rays[is]++
		var single bool
		for _, c := range solid.Boxes(u) {
			single = single || Blocked(of([]api.Box{c}), p, q)
		}
		if single != Blocked(u, p, q) {
			t.Fatal(a, b, p, q, single)
		}
	}
	for _, k := range [][2]bool{{false, false}, {false, true}, {true, false}, {true, true}} {
		if blocked[k] < 500 || rays[k] < 500 {
			t.Error("too few pairs of a kind", blocked, rays)
		}
	}
}

// P11.4: a solid with more cubes blocks at least as much as one with fewer.
func TestMonotone(t *testing.T) {
	random := rand.New(rand.NewSource(7))
	for n := range 4000 {
		w := windows()[n%7]
		c := someCubes(random)
		less, more := w.of(c&set(random.Uint64())), w.of(c)
		for range 10 {
			p, q := w.at(nearby(random, w)), w.at(nearby(random, w))
			d := plus(q, p, -1)
			if Blocked(less, p, q) && !Blocked(more, p, q) || Ray(less, p, d) && !Ray(more, p, d) {
				t.Fatal(less, more, p, q)
			}
		}
	}
}

// P11.6: a ray in a positive multiple of a direction meets the same solids.
func TestMultiples(t *testing.T) {
	random := rand.New(rand.NewSource(8))
	kept := map[bool]int{}
	for range 20000 {
		l := somewhere(random, 3)
		s, c := of(l), l[random.Intn(len(l))]
		d := heading(random)
		greatest := max(d.X, -d.X, d.Y, -d.Y, d.Z, -d.Z)
		b := target(random, c)
		p := plus(b, d, reach(b, d, -1, random.Intn(5)))
		is := Ray(s, p, d)
		for _, k := range []int{2, 3, 1 + random.Intn(end/greatest), end / greatest} {
			if k*greatest <= end && Ray(s, p, plus(api.Point3{}, d, k)) != is {
				t.Fatal(s, p, d, k, is)
			}
		}
		kept[is]++
		// Beyond the greatest direction there is none.
		if Ray(s, p, plus(api.Point3{}, d, end/greatest+1)) {
			t.Fatal(s, p, d)
		}
	}
	if kept[true] < 4000 || kept[false] < 4000 {
		t.Error("too few rays of a kind", kept)
	}
}

// P11.6: a ray meets a solid if a segment along it is blocked, and only if one is that leaves the grid, where there is one.
func TestSegmentsOfRays(t *testing.T) {
	random := rand.New(rand.NewSource(9))
	kept := map[[2]bool]int{}
	for range 20000 {
		l := somewhere(random, 3)
		s, d := of(l), heading(random)
		b := target(random, l[random.Intn(len(l))])
		p := plus(b, d, reach(b, d, -1, random.Intn(5)))
		ray := Ray(s, p, d)
		k := 1 + random.Intn(20)
		if q := plus(p, d, k); isValid(q) {
			is := Blocked(s, p, q)
			if is && !ray {
				t.Fatal(s, p, d, k)
			}
			kept[[2]bool{is, ray}]++
		}
		// Up to the last valid point of a ray, and one step more, which may not be a segment, but its cubes can be tried.
		k = reach(p, d, 1, end)
		rest := enters(l, plus(p, d, k), d, fraction{1, 1}) || isInOne(l, plus(p, d, k)) && k > 0
		if ray != (k > 0 && Blocked(s, p, plus(p, d, k)) || rest) {
			t.Fatal(s, p, d, k, ray, rest)
		}
	}
	if kept[[2]bool{true, true}] < 2000 || kept[[2]bool{false, true}] < 100 || kept[[2]bool{false, false}] < 2000 {
		t.Error("too few rays of a kind", kept)
	}
}

// isInOne reports whether a point is in the inside of one of some boxes.
func isInOne(l []api.Box, p api.Point3) bool {
	return slices.ContainsFunc(l, func(b api.Box) bool { return isIn(b, p, api.Point3{}, fraction{0, 1}) })
}

// P11.6: Blocked remains the same if a solid and both points are moved by the same integers; and so does Ray.
func TestMoved(t *testing.T) {
	random := rand.New(rand.NewSource(10))
	kept := map[bool]int{}
	for n := range 20000 {
		l := somewhere(random, 3)
		p, q := line(random, l[random.Intn(len(l))])
		if n%2 == 0 {
			w := windows()[n/2%7]
			l = solid.Boxes(w.of(someCubes(random) & someCubes(random)))
			p, q = w.at(nearby(random, w)), w.at(nearby(random, w))
		}
		// How far all of it can be moved.
		low, high := at(min(p.X, q.X), min(p.Y, q.Y), min(p.Z, q.Z)), at(max(p.X, q.X), max(p.Y, q.Y), max(p.Z, q.Z))
		for _, b := range l {
			low = at(min(low.X, b.Base.X0), min(low.Y, b.Base.Y0), min(low.Z, b.Z0))
			high = at(max(high.X, b.Base.X1), max(high.Y, b.Base.Y1), max(high.Z, b.Z1))
		}
		d := plus(q, p, -1)
		is, ray := Blocked(of(l), p, q), Ray(of(l), p, d)
		for range 4 {
			number := func(low, high, most int) int {
				return []int{-low, most - high, random.Intn(most-high+low+1) - low}[random.Intn(3)]
			}
			by := at(number(low.X, high.X, end), number(low.Y, high.Y, end), number(low.Z, high.Z, sky))
			var moved []api.Box
			for _, b := range l {
				moved = append(moved, boxes(b.Base.X0+by.X, b.Base.Y0+by.Y, b.Base.X1+by.X, b.Base.Y1+by.Y, b.Z0+by.Z, b.Z1+by.Z)...)
			}
			if Blocked(of(moved), plus(p, by, 1), plus(q, by, 1)) != is || Ray(of(moved), plus(p, by, 1), d) != ray {
				t.Fatal(l, p, q, by, is, ray)
			}
		}
		kept[is]++
	}
	if kept[true] < 3000 || kept[false] < 3000 {
		t.Error("too few segments of a kind", kept)
	}
}

// behind returns a copy of a list, and of the areas in it, that has other elements behind each end.
func behind(s []api.Slab) []api.Slab {
	s = append(slices.Clone(s), slab(0, sky, rect(0, 0, end, end)), slab(7, 7))
	for i, m := range s {
		s[i].Area = append(slices.Clone(m.Area), rect(0, 0, end, end), rect(0, 0, 0, 0))[:len(m.Area)]
	}
	return s[:len(s)-2]
}

// whole returns a list with what stands behind each end.
func whole(s []api.Slab) []api.Slab {
	s = slices.Clone(s[:len(s)+2])
	for i, m := range s {
		s[i].Area = m.Area[:len(m.Area)+2]
	}
	return s
}

// P11.3: a call changes no argument, reads nothing behind an end, and says the same again, also when its list was used for
// something else in between.
func TestPure(t *testing.T) {
	random := rand.New(rand.NewSource(11))
	wrong := notSolids()
	wrong = wrong[:len(wrong)-2] // without the longest ones
	for n := range 5000 {
		l := somewhere(random, 4)
		s := of(l)
		p, q := line(random, l[0])
		switch n % 6 {
		case 0:
			s = wrong[n/6%len(wrong)]
		case 1:
			w := windows()[n/6%7]
			s, p, q = w.of(someCubes(random)), w.at(nearby(random, w)), w.at(nearby(random, w))
		case 2:
			s = nil
		case 3:
			p = notPoints()[n/6%20]
		}
		d := plus(q, p, -1)
		blocked, ray := Blocked(s, p, q), Ray(s, p, d)
		full, kept := behind(s), whole(behind(s))
		for range 2 {
			if Blocked(full, p, q) != blocked || Ray(full, p, d) != ray {
				t.Fatal(s, p, q, !blocked, !ray)
			}
			if !solid.Same(whole(full), kept) {
				t.Fatal(s, p, q, "changed to", whole(full))
			}
		}
		for i := range full {
			clear(full[i].Area)
		}
		clear(full)
		if len(full) > 0 && (Blocked(full, p, q) || Ray(full, p, d)) {
			t.Fatal("no solid", full, p, q)
		}
		if Blocked(s, p, q) != blocked || Ray(s, p, d) != ray {
			t.Fatal(s, p, q, !blocked, !ray)
		}
	}
}
