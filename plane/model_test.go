package plane

import (
	"math/rand"
	"slices"
	"testing"

	"greenbelt/api"
	"greenbelt/solid"
)

// away is the distance of a cell from a side, as the chapter defines it.
func away(b api.Rect, side, x, y int) int {
	switch side {
	case api.West:
		return x - b.X0
	case api.East:
		return b.X1 - 1 - x
	case api.South:
		return y - b.Y0
	default:
		return b.Y1 - 1 - y
	}
}

// allowed reports whether a cube is allowed by the planes, as the chapter defines it.
func allowed(b api.Rect, l []api.Plane, x, y, z int) bool {
	for _, p := range l {
		if (z+1-p.Base)*p.Den > p.Num*away(b, p.Side, x, y) {
			return false
		}
	}
	return true
}

// height is the greatest number such that all cubes below it are allowed, as the chapter defines it.
func height(b api.Rect, l []api.Plane, x, y int) int {
	for z := range sky {
		if !allowed(b, l, x, y, z) {
			return z
		}
	}
	return sky
}

// first is the first cube of some boxes that is not allowed, found by looking at each of them in this order.
func first(b api.Rect, l []api.Plane, s []api.Box) (api.Point3, bool) {
	var found []api.Point3
	for _, c := range s {
		for x := c.Base.X0; x < c.Base.X1; x++ {
			for y := c.Base.Y0; y < c.Base.Y1; y++ {
				for z := c.Z0; z < c.Z1; z++ {
					if !allowed(b, l, x, y, z) {
						found = append(found, api.Point3{X: x, Y: y, Z: z})
						break
					}
				}
			}
		}
	}
	if len(found) == 0 {
		return api.Point3{}, false
	}
	return slices.MinFunc(found, order), true
}

// order compares cubes: the one with the least z is the first one, of several the one with the least x, then y.
func order(a, b api.Point3) int {
	return slices.Compare([]int{a.Z, a.X, a.Y}, []int{b.Z, b.X, b.Y})
}

// window is a part of the grid, from which on there are 6 columns and rows, at one of its corners or within it.
type window struct{ x, y int }

// windows has the corners of the grid, and places within it and at its sides.
func windows() []window {
	return []window{{0, 0}, {end - 6, 0}, {0, end - 6}, {end - 6, end - 6}, {700, 90000}, {0, 500}, {500, end - 6}}
}

// rect returns a random rectangle of a window.
func (w window) rect(random *rand.Rand) api.Rect {
	x0, y0 := random.Intn(6), random.Intn(6)
	return at(w.x+x0, w.y+y0, w.x+x0+1+random.Intn(6-x0), w.y+y0+1+random.Intn(6-y0))
}

// boxes returns up to most random boxes over a window, from z on.
func (w window) boxes(random *rand.Rand, most, z int) []api.Box {
	l := make([]api.Box, random.Intn(most+1))
	for i := range l {
		z0 := z + random.Intn(6)
		l[i] = api.Box{Base: w.rect(random), Z0: z0, Z1: z0 + 1 + random.Intn(6)}
	}
	return l
}

// small returns up to most random planes with small numbers.
func small(random *rand.Rand, most, base int) []api.Plane {
	l := make([]api.Plane, random.Intn(most+1))
	for i := range l {
		l[i] = planes(random.Intn(4), base+random.Intn(9), random.Intn(7), 1+random.Intn(6))[0]
	}
	return l
}

// mixed returns up to most random planes of all kinds.
func mixed(random *rand.Rand, most int) []api.Plane {
	number := func(least int) int {
		switch random.Intn(4) {
		case 0:
			return least
		case 1:
			return sky - random.Intn(3)
		case 2:
			return least + random.Intn(9)
		default:
			return least + random.Intn(sky-least+1)
		}
	}
	l := make([]api.Plane, random.Intn(most+1))
	for i := range l {
		l[i] = planes(random.Intn(4), number(0), number(0), number(1))[0]
	}
	return l
}

// P10.1, P10.2: all rectangles of a window, and all of its cells.
func TestTopModel(t *testing.T) {
	random := rand.New(rand.NewSource(1))
	for _, w := range windows() {
		for n := range 6 * 6 * 6 * 6 {
			b := at(w.x+n%6, w.y+n/6%6, w.x+n/36%6+1, w.y+n/216+1)
			if b.X0 >= b.X1 || b.Y0 >= b.Y1 {
				continue
			}
			l := small(random, 4, 0)
			for i := range 36 {
				x, y := w.x+i%6, w.y+i/6
				for side := range 4 {
					if got := Distance(b, side, x, y); got != away(b, side, x, y) {
						t.Fatal(b, side, x, y, got)
					}
				}
				if got := Top(b, l, x, y); got != height(b, l, x, y) {
					t.Fatal(b, l, x, y, got)
				}
			}
		}
	}
}

// P10.2: planes of all kinds, over cells anywhere in the grid.
func TestTopAnywhere(t *testing.T) {
	random := rand.New(rand.NewSource(2))
	seen := map[bool]int{}
	for range 20000 {
		b, l := anywhere(random), mixed(random, 3)
		x, y := random.Intn(end), random.Intn(end)
		if random.Intn(3) > 0 {
			x, y = min(max(b.X0-9+random.Intn(b.X1-b.X0+18), 0), end-1), min(max(b.Y0-9+random.Intn(b.Y1-b.Y0+18), 0), end-1)
		}
		got := Top(b, l, x, y)
		if got != height(b, l, x, y) {
			t.Fatal(b, l, x, y, got, height(b, l, x, y))
		}
		seen[0 < got && got < sky]++
	}
	if seen[true] < 4000 || seen[false] < 4000 {
		t.Error("too few heights of a kind", seen)
	}
}

// anywhere returns a random rectangle of any size.
func anywhere(random *rand.Rand) api.Rect {
	scale := 1 << random.Intn(18)
	number := func() (int, int) {
		from := random.Intn(min(end-scale, 40*scale))
		to := min(from+1+random.Intn(9*scale), end)
		if random.Intn(3) == 0 {
			return end - to, end - from
		}
		return from, to
	}
	x0, x1 := number()
	y0, y1 := number()
	return at(x0, y0, x1, y1)
}

// P10.2: which cells of a window a room has.
func TestRoomModel(t *testing.T) {
	random := rand.New(rand.NewSource(3))
	for _, w := range windows() {
		for range 200 {
			b, l := w.rect(random), small(random, 4, 0)
			for z := range 14 {
				got, e := Room(b, l, z)
				if e != api.OK || len(got) > 1 {
					t.Fatal(b, l, z, got, e)
				}
				for i := range 36 {
					x, y := w.x+i%6, w.y+i/6
					is := len(got) == 1 && got[0].X0 <= x && x < got[0].X1 && got[0].Y0 <= y && y < got[0].Y1
					if is != (height(b, l, x, y) >= z) {
						t.Fatal(b, l, z, got, x, y)
					}
				}
			}
		}
	}
}

// ends returns the first number from 0 to end - 1 that is kept, and the one behind the last one; all between are kept.
func ends(t *testing.T, keep func(n int) bool) (from, to int) {
	from, to = end, end
	for n := range end {
		if is := keep(n); is && from == end {
			from = n
		} else if !is && from < end && to == end {
			to = n
		} else if is && to < end {
			t.Fatal("not an interval", from, to, n)
		}
	}
	return from, to
}

// P10.2: all columns and rows of the grid. A plane of the West or the East is as high over all cells of a column, one of
// the South or the North over all cells of a row, so a room has the cells of some columns that are in some rows.
func TestRoomAnywhere(t *testing.T) {
	random := rand.New(rand.NewSource(4))
	sizes := map[int]int{}
	for range 60 {
		b, l := anywhere(random), mixed(random, 2)
		z := 1 + random.Intn(sky)
		if len(l) > 0 && random.Intn(2) == 0 {
			z = min(max(l[0].Base-3+random.Intn(7), 1), sky)
		}
		var columns, rows []api.Plane
		for _, p := range l {
			if p.Side == api.West || p.Side == api.East {
				columns = append(columns, p)
			} else {
				rows = append(rows, p)
			}
		}
		// A cube is allowed only if those below it are, so the highest one decides.
		x0, x1 := ends(t, func(x int) bool { return allowed(b, columns, x, 0, z-1) })
		y0, y1 := ends(t, func(y int) bool { return allowed(b, rows, 0, y, z-1) })
		want := at(x0, y0, x1, y1)
		if x0 == end || y0 == end {
			want = api.Rect{}
		}
		got, e := Room(b, l, z)
		checkRoom(t, []any{b, l, z}, got, e, want, api.OK)
		sizes[len(got)]++
	}
	if sizes[0] < 5 || sizes[1] < 20 {
		t.Error("too few rooms of a kind", sizes)
	}
}

// P10.2: beside each side of a room the height is too low, and in its corners it suffices.
func TestRoomSides(t *testing.T) {
	random := rand.New(rand.NewSource(5))
	sizes := map[int]int{}
	for range 20000 {
		b, l, z := anywhere(random), mixed(random, 4), 1+random.Intn(sky)
		if len(l) > 0 && random.Intn(2) == 0 {
			z = min(max(l[0].Base-3+random.Intn(7), 1), sky)
		}
		got, e := Room(b, l, z)
		if e != api.OK || len(got) > 1 {
			t.Fatal(b, l, z, got, e)
		}
		sizes[len(got)]++
		for _, r := range got {
			in := allowed(b, l, r.X0, r.Y0, z-1) && allowed(b, l, r.X1-1, r.Y1-1, z-1)
			out := r.X0 > 0 && allowed(b, l, r.X0-1, r.Y0, z-1) || r.Y0 > 0 && allowed(b, l, r.X0, r.Y0-1, z-1) ||
				r.X1 < end && allowed(b, l, r.X1, r.Y0, z-1) || r.Y1 < end && allowed(b, l, r.X0, r.Y1, z-1)
			if !in || out {
				t.Fatal(b, l, z, got)
			}
		}
		if len(got) == 0 {
			for range 20 {
				if x, y := random.Intn(end), random.Intn(end); allowed(b, l, x, y, z-1) {
					t.Fatal(b, l, z, x, y)
				}
			}
		}
	}
	if sizes[0] < 4000 || sizes[1] < 4000 {
		t.Error("too few rooms of a kind", sizes)
	}
}

// P10.2, P10.3: cubes whose height is exactly the one of a plane, and one more or less of the smallest parts.
func TestExact(t *testing.T) {
	b := at(500, 500, 520, 520)
	seen := map[int]int{}
	for side := range 4 {
		for _, base := range []int{0, 1, 30, 4000} {
			for num := range 8 {
				for den := 1; den < 8; den++ {
					for far := -12; far <= 12; far++ {
						x, y := 510, 510
						switch side {
						case api.West:
							x = 500 + far
						case api.East:
							x = 519 - far
						case api.South:
							y = 500 + far
						default:
							y = 519 - far
						}
						l := planes(side, base, num, den)
						for z := max(base-99, 0); z < min(base+99, sky); z++ {
							part := (z+1-base)*den - num*far
							if part < -1 || part > 1 {
								continue
							}
							seen[part]++
							is := part <= 0
							if allowed(b, l, x, y, z) != is || (Top(b, l, x, y) > z) != is || Allows(b, l, cube(x, y, z)) != is {
								t.Fatal(b, l, x, y, z, is)
							}
							got, e := Room(b, l, z+1)
							has := len(got) == 1 && got[0].X0 <= x && x < got[0].X1 && got[0].Y0 <= y && y < got[0].Y1
							if e != api.OK || has != is {
								t.Fatal(b, l, x, y, z, got, e, is)
							}
						}
					}
				}
			}
		}
	}
	if seen[-1] < 500 || seen[0] < 500 || seen[1] < 500 {
		t.Error("too few cubes of a kind", seen)
	}
}

// P10.3: the first cube of small solids, cube by cube.
func TestFirstModel(t *testing.T) {
	random := rand.New(rand.NewSource(6))
	seen := map[bool]int{}
	for n := range 30000 {
		w := windows()[n%7]
		base := []int{0, 0, 7, 4000, sky - 12}[random.Intn(5)]
		b, l, s := w.rect(random), small(random, 4, min(base, sky-8)), w.boxes(random, 5, base)
		want, is := first(b, l, s)
		checkFirst(t, []any{b, l, s}, b, l, of(s), want, is)
		seen[is]++
	}
	if seen[true] < 5000 || seen[false] < 5000 {
		t.Error("too few solids of a kind", seen)
	}
}

// somewhere returns up to most random boxes of any size near a rectangle.
func somewhere(random *rand.Rand, b api.Rect, most int) []api.Box {
	number := func(from, to int) (int, int) {
		size := to - from
		a := max(from-size/2+random.Intn(2*size+1), 0)
		a = min(a, end-1)
		return a, min(a+1+random.Intn(size+3), end)
	}
	l := make([]api.Box, random.Intn(most+1))
	for i := range l {
		x0, x1 := number(b.X0, b.X1)
		y0, y1 := number(b.Y0, b.Y1)
		z0 := random.Intn(random.Intn(sky) + 1)
		l[i] = api.Box{Base: at(x0, y0, x1, y1), Z0: z0, Z1: z0 + 1 + random.Intn(sky-z0)}
	}
	return l
}

// P10.3: the first cube of solids of all sizes is in the solid and not allowed, and no cube that is not allowed, over any of
// the cells that are looked at, comes before it.
func TestFirstAnywhere(t *testing.T) {
	random := rand.New(rand.NewSource(7))
	seen := map[bool]int{}
	for range 5000 {
		b, l := anywhere(random), mixed(random, 3)
		s := somewhere(random, b, 4)
		got, is := First(b, l, of(s))
		if Allows(b, l, of(s)) == is {
			t.Fatal(b, l, s, is)
		}
		seen[is]++
		if is && (allowed(b, l, got.X, got.Y, got.Z) || !solid.Has(of(s), got.X, got.Y, got.Z)) {
			t.Fatal(b, l, s, got)
		}
		for _, c := range s {
			r := c.Base
			for range 30 {
				x, y := pick(random, r.X0, r.X1, got.X), pick(random, r.Y0, r.Y1, got.Y)
				z := max(c.Z0, height(b, l, x, y))
				if z < c.Z1 && (!is || order(api.Point3{X: x, Y: y, Z: z}, got) < 0) {
					t.Fatal(b, l, s, got, is, x, y, z)
				}
			}
		}
	}
	if seen[true] < 1000 || seen[false] < 500 {
		t.Error("too few solids of a kind", seen)
	}
}

// pick returns a number of a range: an end of it, one near another number, or any.
func pick(random *rand.Rand, from, to, near int) int {
	n := from + random.Intn(to-from)
	switch random.Intn(5) {
	case 0:
		n = from
	case 1:
		n = to - 1
	case 2:
		n = near - 1 + random.Intn(3)
	}
	return min(max(n, from), to-1)
}

// P10.5: what is below an allowed cube is allowed; rooms of greater heights lie in those of smaller ones; more planes
// have smaller rooms and lower tops.
func TestMonotone(t *testing.T) {
	random := rand.New(rand.NewSource(8))
	inside := func(a, b []api.Rect) bool {
		return len(a) == 0 || len(b) == 1 && b[0].X0 <= a[0].X0 && a[0].X1 <= b[0].X1 && b[0].Y0 <= a[0].Y0 && a[0].Y1 <= b[0].Y1
	}
	for n := range 6000 {
		b, l, more := anywhere(random), mixed(random, 3), mixed(random, 2)
		if n%2 == 0 {
			b, l, more = windows()[n%7].rect(random), small(random, 3, 0), small(random, 2, 0)
		}
		all := slices.Concat(l, more)
		random.Shuffle(len(all), func(i, j int) { all[i], all[j] = all[j], all[i] })
		z := random.Intn(sky + 1)
		low := random.Intn(z + 1)
		if n%3 == 0 {
			z = min(z, 12)
			low = max(z-1, 0)
		}
		greater, e := Room(b, l, low)
		smaller, f := Room(b, l, z)
		fewer, g := Room(b, all, z)
		if e != api.OK || f != api.OK || g != api.OK || !inside(smaller, greater) || !inside(fewer, smaller) {
			t.Fatal(b, l, more, low, z, greater, smaller, fewer)
		}
		x, y := pick(random, 0, end, b.X0), pick(random, 0, end, b.Y1)
		if Top(b, all, x, y) > Top(b, l, x, y) || Top(b, all, x, y) != min(Top(b, l, x, y), Top(b, more, x, y)) {
			t.Fatal(b, l, more, x, y)
		}
		is := true
		for z := range 40 {
			if a := Allows(b, l, cube(x, y, z*100)); a && !is {
				t.Fatal(b, l, x, y, z)
			} else {
				is = a
			}
		}
	}
}

// P10.6: a union is allowed exactly if both solids are, and its first cube is the first one of both.
func TestUnion(t *testing.T) {
	random := rand.New(rand.NewSource(9))
	seen := map[[2]bool]int{}
	for n := range 12000 {
		b, l := anywhere(random), mixed(random, 3)
		s, m := somewhere(random, b, 3), somewhere(random, b, 3)
		if n%2 == 0 {
			w := windows()[n%7]
			b, l, s, m = w.rect(random), small(random, 3, 0), w.boxes(random, 4, 0), w.boxes(random, 4, 0)
		}
		u, e := solid.Union(of(s), of(m))
		if e != api.OK {
			t.Fatal(s, m, e)
		}
		isS, isM := Allows(b, l, of(s)), Allows(b, l, of(m))
		seen[[2]bool{isS, isM}]++
		if Allows(b, l, u) != (isS && isM) {
			t.Fatal(b, l, s, m, isS, isM)
		}
		want := firstOf(b, l, of(s), of(m))
		checkFirst(t, []any{b, l, s, m}, b, l, u, want, !isS || !isM)
	}
	for _, k := range [][2]bool{{false, false}, {false, true}, {true, false}, {true, true}} {
		if seen[k] < 800 {
			t.Error("too few pairs of a kind", seen)
		}
	}
}

// firstOf returns the first one of the first cubes of some solids, or a zero point if they have none.
func firstOf(b api.Rect, l []api.Plane, s ...[]api.Slab) api.Point3 {
	var found []api.Point3
	for _, m := range s {
		if c, is := First(b, l, m); is {
			found = append(found, c)
		}
	}
	if len(found) == 0 {
		return api.Point3{}
	}
	return slices.MinFunc(found, order)
}

// P10.6: in whatever way a solid is put together, its first cube is the same, and the first one of its boxes. P10.2: a box
// is allowed exactly if its base lies in the room of the height at which it ends.
func TestPutTogether(t *testing.T) {
	random := rand.New(rand.NewSource(10))
	for n := range 6000 {
		b, l := anywhere(random), mixed(random, 3)
		s := somewhere(random, b, 5)
		if n%2 == 0 {
			w := windows()[n%7]
			b, l, s = w.rect(random), small(random, 3, 0), w.boxes(random, 6, 0)
		}
		want, is := First(b, l, of(s))
		random.Shuffle(len(s), func(i, j int) { s[i], s[j] = s[j], s[i] })
		checkFirst(t, []any{b, l, s}, b, l, of(s), want, is)
		var sum []api.Slab
		var single [][]api.Slab
		for _, c := range s {
			one := of([]api.Box{c})
			single = append(single, one)
			sum, _ = solid.Union(sum, one)
		}
		checkFirst(t, []any{b, l, s}, b, l, sum, want, is)
		if firstOf(b, l, single...) != want {
			t.Fatal(b, l, s, want)
		}
		for _, c := range s {
			room, _ := Room(b, l, c.Z1)
			in := len(room) == 1 && room[0].X0 <= c.Base.X0 && c.Base.X1 <= room[0].X1 && room[0].Y0 <= c.Base.Y0 && c.Base.Y1 <= room[0].Y1
			if Allows(b, l, of([]api.Box{c})) != in {
				t.Fatal(b, l, c, room)
			}
		}
	}
}

// results has what all functions return for some arguments.
func results(b api.Rect, l []api.Plane, s []api.Slab, x, y, z int) (room []api.Rect, others []int) {
	room, e := Room(b, l, z)
	c, is := First(b, l, s)
	others = []int{int(e), Top(b, l, x, y), c.X, c.Y, c.Z}
	for _, is := range []bool{is, Allows(b, l, s)} {
		others = append(others, map[bool]int{true: 1}[is])
	}
	for side := range 4 {
		others = append(others, Distance(b, side, x, y))
	}
	for _, p := range l {
		others = append(others, map[bool]int{true: 1}[Right(p)])
	}
	return room, others
}

// behind returns copies of lists, and of the areas in them, that have other elements behind each end.
func behind(l []api.Plane, s []api.Slab) ([]api.Plane, []api.Slab) {
	l = append(slices.Clone(l), planes(0, 0, 0, 1, 4, 0, 0, 0, 3, 0, 0, 1)...)
	s = append(slices.Clone(s), slab(0, sky, at(0, 0, end, end)), slab(7, 7))
	for i, m := range s {
		s[i].Area = append(slices.Clone(m.Area), at(0, 0, end, end), at(0, 0, 0, 0))[:len(m.Area)]
	}
	return l[:len(l)-3], s[:len(s)-2]
}

// whole returns lists with what stands behind each end.
func whole(l []api.Plane, s []api.Slab) ([]api.Plane, []api.Slab) {
	s = slices.Clone(s[:len(s)+2])
	for i, m := range s {
		s[i].Area = m.Area[:len(m.Area)+2]
	}
	return l[:len(l)+3], s
}

// P10.4: the functions are pure: they change no argument, read nothing behind an end, return the same again, and what is
// written into a result, or into an argument later, changes nothing else.
func TestPure(t *testing.T) {
	random := rand.New(rand.NewSource(11))
	for n := range 4000 {
		b, l := anywhere(random), mixed(random, 3)
		s := of(somewhere(random, b, 4))
		switch n % 8 {
		case 0:
			l = append(l, notPlanes()[n/8%20])
		case 1:
			s = notSolids()[n/8%20]
		case 2:
			b = notRects()[n/8%20]
		case 3, 4, 5:
			w := windows()[n%7]
			b, l, s = w.rect(random), small(random, 3, 0), of(w.boxes(random, 4, 0))
		}
		x, y, z := random.Intn(end), random.Intn(end), random.Intn(sky+1)
		want, said := results(b, slices.Clone(l), s, x, y, z)
		want = slices.Clone(want)
		fullL, fullS := behind(l, s)
		keptL, keptS := whole(behind(l, s))
		got, again := results(b, fullL, fullS, x, y, z)
		if !slices.Equal(got, want) || !slices.Equal(again, said) {
			t.Fatal(b, l, s, got, want, again, said)
		}
		for i := range got[:cap(got)] {
			got[:cap(got)][i] = at(-7, -7, -7, -7)
		}
		if a, c := whole(fullL, fullS); !slices.Equal(a, keptL) || !solid.Same(c, keptS) {
			t.Fatal(b, l, s, "changed to", a, c)
		}
		got, again = results(b, fullL, fullS, x, y, z)
		if !slices.Equal(got, want) || !slices.Equal(again, said) {
			t.Fatal(b, l, s, "results share memory")
		}
		for i := range fullL {
			fullL[i] = api.Plane{Side: -7}
		}
		for i := range fullS {
			clear(fullS[i].Area)
			fullS[i] = api.Slab{}
		}
		if !slices.Equal(got, want) {
			t.Fatal(b, l, s, "results share memory with arguments")
		}
	}
}
