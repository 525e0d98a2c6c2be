package solid

import (
	"math"
	"slices"
	"testing"

	"greenbelt/api"
)

// op is a function of two solids.
type op func(a, b []api.Slab) ([]api.Slab, api.Errno)

// pair has two solids and what becomes of them.
type pair struct{ a, b, union, common, minus []api.Slab }

// pairs has solids that meet in all ways.
func pairs() []pair {
	all, low, high := pile(slab(0, sky, 0, 0, end, end)), pile(slab(0, 4, 0, 0, 4, 4)), pile(slab(2, 6, 2, 2, 6, 6))
	u := pile(slab(0, 3, 0, 0, 2, 2), slab(3, 5, 0, 0, 1, 2))
	room := pile(slab(0, 1, 0, 0, 3, 3), over(1, 2, ring()), slab(2, 3, 0, 0, 3, 3))
	return []pair{
		// Nothing, the same, and one in the other.
		{nil, nil, nil, nil, nil}, {u, nil, u, nil, u}, {nil, u, u, nil, nil}, {u, u, u, u, nil}, {u, all, all, u, nil}, {all, all, all, all, nil},
		{u, pile(slab(0, 3, 0, 0, 2, 2)), u, pile(slab(0, 3, 0, 0, 2, 2)), pile(slab(3, 5, 0, 0, 1, 2))}, {u, pile(slab(3, 5, 0, 0, 1, 2)), u, pile(slab(3, 5, 0, 0, 1, 2)), pile(slab(0, 3, 0, 0, 2, 2))},
		{u, pile(slab(1, 5, 0, 0, 2, 1)), pile(slab(0, 3, 0, 0, 2, 2), slab(3, 5, 0, 0, 1, 2, 1, 0, 2, 1)), pile(slab(1, 3, 0, 0, 2, 1), slab(3, 5, 0, 0, 1, 1)), pile(slab(0, 1, 0, 0, 2, 2), slab(1, 3, 0, 1, 2, 2), slab(3, 5, 0, 1, 1, 2))},
		// A part in common, and none.
		{low, high, pile(slab(0, 2, 0, 0, 4, 4), slab(2, 4, 0, 0, 2, 4, 2, 0, 4, 6, 4, 2, 6, 6), slab(4, 6, 2, 2, 6, 6)), pile(slab(2, 4, 2, 2, 4, 4)), pile(slab(0, 2, 0, 0, 4, 4), slab(2, 4, 0, 0, 2, 4, 2, 0, 4, 2))},
		{high, low, pile(slab(0, 2, 0, 0, 4, 4), slab(2, 4, 0, 0, 2, 4, 2, 0, 4, 6, 4, 2, 6, 6), slab(4, 6, 2, 2, 6, 6)), pile(slab(2, 4, 2, 2, 4, 4)), pile(slab(2, 4, 2, 4, 4, 6, 4, 2, 6, 6), slab(4, 6, 2, 2, 6, 6))},
		{cube(5, 5, 5), cube(9, 9, 9), pile(slab(5, 6, 5, 5, 6, 6), slab(9, 10, 9, 9, 10, 10)), nil, cube(5, 5, 5)}, {cube(9, 9, 9), cube(5, 5, 5), pile(slab(5, 6, 5, 5, 6, 6), slab(9, 10, 9, 9, 10, 10)), nil, cube(9, 9, 9)},
		{cube(5, 5, 5), cube(5, 5, 6), pile(slab(5, 7, 5, 5, 6, 6)), nil, cube(5, 5, 5)}, {cube(5, 5, 6), cube(5, 5, 5), pile(slab(5, 7, 5, 5, 6, 6)), nil, cube(5, 5, 6)}, {cube(5, 5, 5), cube(6, 5, 5), pile(slab(5, 6, 5, 5, 7, 6)), nil, cube(5, 5, 5)},
		{cube(5, 5, 5), cube(5, 4, 5), pile(slab(5, 6, 5, 4, 6, 6)), nil, cube(5, 5, 5)}, {cube(5, 5, 5), cube(6, 6, 6), pile(slab(5, 6, 5, 5, 6, 6), slab(6, 7, 6, 6, 7, 7)), nil, cube(5, 5, 5)},
		{cube(5, 5, 5), cube(5, 5, 7), pile(slab(5, 6, 5, 5, 6, 6), slab(7, 8, 5, 5, 6, 6)), nil, cube(5, 5, 5)}, {cube(0, 0, 0), cube(end-1, end-1, sky-1), pile(slab(0, 1, 0, 0, 1, 1), slab(sky-1, sky, end-1, end-1, end, end)), nil, cube(0, 0, 0)},
		// Layers that become one, below, above, between and on both sides.
		{pile(slab(0, 3, 0, 0, 2, 2)), pile(slab(3, 5, 0, 0, 2, 2)), pile(slab(0, 5, 0, 0, 2, 2)), nil, pile(slab(0, 3, 0, 0, 2, 2))}, {pile(slab(0, 3, 0, 0, 2, 2), slab(4, 5, 0, 0, 2, 2)), pile(slab(3, 4, 0, 0, 2, 2)), pile(slab(0, 5, 0, 0, 2, 2)), nil, pile(slab(0, 3, 0, 0, 2, 2), slab(4, 5, 0, 0, 2, 2))},
		{pile(slab(0, 3, 0, 0, 2, 2)), pile(slab(2, 5, 0, 0, 2, 2)), pile(slab(0, 5, 0, 0, 2, 2)), pile(slab(2, 3, 0, 0, 2, 2)), pile(slab(0, 2, 0, 0, 2, 2))}, {u, pile(slab(3, 5, 1, 0, 2, 2)), pile(slab(0, 5, 0, 0, 2, 2)), nil, u},
		{u, pile(slab(0, 3, 1, 0, 2, 2)), u, pile(slab(0, 3, 1, 0, 2, 2)), pile(slab(0, 5, 0, 0, 1, 2))}, {u, pile(slab(0, 5, 0, 0, 1, 2)), u, pile(slab(0, 5, 0, 0, 1, 2)), pile(slab(0, 3, 1, 0, 2, 2))}, {pile(slab(0, 5, 0, 0, 1, 2)), u, u, pile(slab(0, 5, 0, 0, 1, 2)), nil},
		{pile(slab(0, 3, 0, 0, 2, 2), slab(3, 5, 0, 0, 2, 1)), pile(slab(0, 3, 0, 0, 2, 1), slab(3, 5, 0, 0, 2, 2)), pile(slab(0, 5, 0, 0, 2, 2)), pile(slab(0, 5, 0, 0, 2, 1)), pile(slab(0, 3, 0, 1, 2, 2))},
		{pile(slab(0, 9, 0, 0, 2, 2)), pile(slab(3, 4, 0, 0, 2, 2)), pile(slab(0, 9, 0, 0, 2, 2)), pile(slab(3, 4, 0, 0, 2, 2)), pile(slab(0, 3, 0, 0, 2, 2), slab(4, 9, 0, 0, 2, 2))},
		{pile(slab(0, 9, 0, 0, 2, 2)), pile(slab(0, 1, 0, 0, 2, 2), slab(8, 9, 0, 0, 2, 2)), pile(slab(0, 9, 0, 0, 2, 2)), pile(slab(0, 1, 0, 0, 2, 2), slab(8, 9, 0, 0, 2, 2)), pile(slab(1, 8, 0, 0, 2, 2))},
		{pile(slab(0, 9, 0, 0, 1, 1)), pile(slab(2, 4, 0, 0, 1, 1, 5, 5, 6, 6)), pile(slab(0, 2, 0, 0, 1, 1), slab(2, 4, 0, 0, 1, 1, 5, 5, 6, 6), slab(4, 9, 0, 0, 1, 1)), pile(slab(2, 4, 0, 0, 1, 1)), pile(slab(0, 2, 0, 0, 1, 1), slab(4, 9, 0, 0, 1, 1))},
		// A room, and what fills it.
		{room, cube(1, 1, 1), pile(slab(0, 3, 0, 0, 3, 3)), nil, room}, {pile(slab(0, 3, 0, 0, 3, 3)), cube(1, 1, 1), pile(slab(0, 3, 0, 0, 3, 3)), cube(1, 1, 1), room}, {pile(slab(0, 3, 0, 0, 3, 3)), room, pile(slab(0, 3, 0, 0, 3, 3)), room, cube(1, 1, 1)},
		{pile(over(0, 2, ring())), pile(slab(1, 3, 1, 1, 2, 2)), pile(over(0, 1, ring()), slab(1, 2, 0, 0, 3, 3), slab(2, 3, 1, 1, 2, 2)), nil, pile(over(0, 2, ring()))},
		// The borders of the grid and of the heights.
		{all, pile(slab(0, sky-1, 0, 0, end, end)), all, pile(slab(0, sky-1, 0, 0, end, end)), pile(slab(sky-1, sky, 0, 0, end, end))}, {all, pile(slab(1, sky, 0, 0, end, end)), all, pile(slab(1, sky, 0, 0, end, end)), pile(slab(0, 1, 0, 0, end, end))},
		{all, pile(slab(1, sky-1, 0, 0, end, end-1)), all, pile(slab(1, sky-1, 0, 0, end, end-1)), pile(slab(0, 1, 0, 0, end, end), slab(1, sky-1, 0, end-1, end, end), slab(sky-1, sky, 0, 0, end, end))},
		{pile(slab(0, 1, 0, 0, end, end)), pile(slab(1, sky, 0, 0, end, end)), all, nil, pile(slab(0, 1, 0, 0, end, end))}, {pile(slab(0, sky, 0, 0, 1, end)), pile(slab(0, sky, 1, 0, end, end)), all, nil, pile(slab(0, sky, 0, 0, 1, end))},
	}
}

// P9.2: the cubes in either, in both, and in the first one only.
func TestSets(t *testing.T) {
	for _, c := range pairs() {
		got, e := Union(c.a, c.b)
		check(t, []any{"Union", c.a, c.b}, got, e, c.union, api.OK)
		got, e = Common(c.a, c.b)
		check(t, []any{"Common", c.a, c.b}, got, e, c.common, api.OK)
		got, e = Minus(c.a, c.b)
		check(t, []any{"Minus", c.a, c.b}, got, e, c.minus, api.OK)
	}
}

// P9.2: solids of all kinds with nothing, with themselves, and with everything.
func TestSetsOfOne(t *testing.T) {
	all := pile(slab(0, sky, 0, 0, end, end))
	for _, s := range solids() {
		for i, c := range []struct {
			f    op
			a, b []api.Slab
			want []api.Slab
		}{
			{Union, s, nil, s}, {Union, nil, s, s}, {Union, s, copied(s), s}, {Union, s, all, all}, {Union, all, s, all}, {Common, s, nil, nil}, {Common, nil, s, nil}, {Common, s, copied(s), s},
			{Common, s, all, s}, {Common, all, s, s}, {Minus, s, nil, s}, {Minus, nil, s, nil}, {Minus, s, copied(s), nil}, {Minus, s, all, nil},
		} {
			got, e := c.f(c.a, c.b)
			check(t, []any{i, s}, got, e, c.want, api.OK)
		}
	}
}

// P9.2: what is not a solid is an error in each of the arguments, also if the result would have too many slabs or
// rectangles.
func TestSetsInvalid(t *testing.T) {
	right := [][]api.Slab{nil, cube(0, 0, 0), pile(slab(0, sky, 0, 0, end, end)), steps(80, 3), floors(80, 3, 2, ring()), largest()}
	for i, f := range []op{Union, Common, Minus} {
		for _, wrong := range notSolids() {
			for _, a := range right {
				got, e := f(wrong, a)
				check(t, []any{i, wrong, a}, got, e, nil, api.ErrArg)
				got, e = f(a, wrong)
				check(t, []any{i, a, wrong}, got, e, nil, api.ErrArg)
			}
			for _, other := range [][]api.Slab{wrong, pile(slab(0, 0, 0, 0, 1, 1)), steps(81, 3)} {
				got, e := f(wrong, other)
				check(t, []any{i, wrong, other}, got, e, nil, api.ErrArg)
			}
		}
	}
}

// P9.2: a result may have MaxSlabs slabs, and not one more.
func TestSetsManySlabs(t *testing.T) {
	a, far := list(0, 0, 9, 9), list(20, 20, 21, 21)
	one, all := pile(over(4000, 4001, a)), pile(slab(0, sky, 0, 0, end, end))
	for i, c := range []struct {
		f    op
		a, b []api.Slab
		n    int // of slabs
	}{
		{Union, floors(79, 1, 1, a), one, 80}, {Union, floors(80, 1, 1, a), one, 81}, {Union, one, floors(80, 1, 1, a), 81}, {Union, floors(80, 1, 1, a), floors(80, 1, 1, a), 80}, {Union, floors(80, 1, 1, a), all, 1}, {Union, floors(80, 1, 1, a), pile(over(0, 161, a)), 1},
		{Union, floors(80, 1, 1, a), pile(over(2, 3, a)), 79}, {Union, floors(80, 1, 1, a), pile(over(2, 3, far)), 81}, {Union, floors(40, 1, 1, a), floors(40, 1, 1, far), 40}, {Union, floors(40, 1, 1, a), raised(floors(40, 1, 1, far), 1), 80},
		{Union, floors(41, 1, 1, a), raised(floors(40, 1, 1, far), 1), 81}, {Union, floors(80, 1, 1, a), raised(floors(80, 1, 1, far), 1), 160}, {Union, floors(80, 1, 1, a), raised(floors(80, 1, 1, a), 1), 1}, {Union, floors(40, 1, 3, a), raised(floors(40, 1, 3, a), 2), 80},
		{Union, floors(40, 1, 3, a), raised(floors(41, 1, 3, a), 2), 81}, {Union, floors(80, 1, 3, a), raised(floors(80, 1, 3, a), 2), 160}, {Union, floors(80, 1, 1, a), pile(over(0, 80, far)), 120}, {Union, floors(53, 1, 1, a), pile(over(0, 53, far)), 80}, {Union, floors(53, 1, 1, a), pile(over(0, 55, far)), 81},
		{Union, steps(80, 2), raised(steps(80, 2), 1), 80}, {Union, steps(80, 2), raised(steps(80, 2), 2), 80}, {Union, steps(79, 1), raised(steps(80, 1), 79), 159}, {Union, steps(40, 1), raised(steps(40, 1), 40), 80}, {Union, steps(41, 1), raised(steps(40, 1), 41), 81},
		{Common, floors(80, 1, 1, a), all, 80}, {Common, all, floors(80, 1, 1, a), 80}, {Common, floors(40, 1, 1, a), pile(over(0, 999, a)), 40}, {Common, floors(80, 3, 1, a), raised(floors(80, 3, 1, a), 2), 159}, {Common, floors(40, 3, 1, a), raised(floors(40, 3, 1, a), 2), 79},
		{Common, floors(41, 3, 1, a), raised(floors(40, 3, 1, a), 2), 80}, {Common, floors(41, 3, 1, a), raised(floors(41, 3, 1, a), 2), 81}, {Common, steps(80, 2), pile(over(0, 160, a)), 9}, {Common, floors(80, 3, 1, a), raised(floors(80, 1, 3, a), 1), 0},
		{Common, steps(80, 2), raised(pile(slab(0, 80, 0, 0, 80, 1), slab(80, 160, 0, 0, 79, 1)), 0), 80}, {Common, steps(80, 4), floors(80, 1, 3, list(0, 0, 80, 1)), 80}, {Common, steps(80, 4), floors(64, 2, 1, list(0, 0, 80, 1)), 80}, {Common, steps(80, 4), floors(65, 2, 1, list(0, 0, 80, 1)), 81},
		{Minus, floors(80, 1, 1, a), one, 80}, {Minus, floors(80, 3, 1, a), one, 80}, {Minus, floors(80, 3, 1, a), pile(over(6, 7, a)), 81}, {Minus, floors(79, 3, 1, a), pile(over(6, 7, a)), 80}, {Minus, floors(80, 3, 1, a), pile(over(0, 999, a)), 0}, {Minus, pile(over(0, 999, a)), floors(79, 1, 1, a), 80},
		{Minus, pile(over(0, 999, a)), floors(80, 1, 1, a), 81}, {Minus, pile(over(1, 160, a)), floors(80, 1, 1, a), 79}, {Minus, pile(over(0, 160, a)), floors(80, 1, 1, a), 80}, {Minus, pile(over(0, 160, a)), floors(80, 1, 1, list(0, 0, 1, 1)), 160}, {Minus, all, floors(80, 1, 1, a), 161}, {Minus, all, all, 0},
		{Minus, floors(40, 3, 1, a), raised(floors(40, 1, 3, a), -1), 80}, {Minus, floors(41, 3, 1, a), raised(floors(40, 1, 3, a), -1), 81}, {Minus, steps(80, 1), pile(slab(0, 80, 0, 0, 1, 1)), 79}, {Minus, steps(80, 3), cube(0, 0, 4), 82}, {Minus, steps(79, 3), cube(0, 0, 3), 80}, {Minus, steps(80, 3), cube(0, 0, 3), 81},
	} {
		got, e := c.f(c.a, c.b)
		m := 0
		for _, l := range got {
			m = max(m, len(l.Area))
		}
		checkSize(t, i, got, e, c.n, m)
	}
}

// P9.2: each cross-section of a result may have MaxRects rectangles, and not one more.
func TestSetsManyRects(t *testing.T) {
	dot := func(y int) []api.Rect { return list(0, y, 1, y+1) }
	for i, c := range []struct {
		f    op
		a, b []api.Rect
		m    int // of rectangles
	}{
		{Union, posts(199, 1), dot(9), 200}, {Union, posts(200, 1), dot(9), 201}, {Union, dot(9), posts(200, 1), 201}, {Union, posts(2, 300), bars(66, 9), 200}, {Union, bars(100, 9), posts(1, 300), 201}, {Union, posts(200, 1), list(0, 0, 999, 1), 1},
		{Common, posts(10, 300), bars(20, 300), 200}, {Common, bars(20, 300), posts(10, 300), 200}, {Common, posts(3, 300), bars(67, 300), 201}, {Common, posts(200, 300), bars(2, 900), 400}, {Common, posts(200, 1), bars(1, 900), 0},
		{Minus, posts(10, 300), bars(19, 300), 200}, {Minus, posts(3, 300), bars(66, 300), 201}, {Minus, bars(100, 300), posts(1, 300), 200}, {Minus, bars(67, 300), posts(2, 300), 201}, {Minus, bars(200, end), list(0, 0, end, end), 0},
	} {
		// Between other slabs, alone, and at the top.
		n := min(c.m, 1)
		got, e := c.f(pile(over(3, 5, c.a)), pile(over(3, 5, c.b)))
		checkSize(t, i, got, e, n, c.m)
		got, e = c.f(pile(over(3, 5, c.a)), pile(over(4, 6, c.b)))
		if c.m > 200 {
			check(t, i, got, e, nil, api.ErrFull)
		} else if want, _ := c.f(pile(over(4, 5, c.a)), pile(over(4, 5, c.b))); e != api.OK || !equal(want, cut(got, 4, 5)) {
			fail(t, i, e, got, want)
		}
		got, e = c.f(pile(slab(0, 1, 0, 0, 3, 3), over(sky-1, sky, c.a)), pile(slab(0, 1, 2, 2, 5, 5), over(sky-2, sky, c.b)))
		if c.m > 200 {
			check(t, i, got, e, nil, api.ErrFull)
		} else if e != api.OK || !Right(got) || len(Section(got, sky-1)) != c.m {
			fail(t, i, e, len(Section(got, sky-1)))
		}
	}
}

// cut returns the slabs between two heights.
func cut(s []api.Slab, z0, z1 int) []api.Slab {
	var l []api.Slab
	for _, m := range s {
		if z0, z1 := max(z0, m.Z0), min(z1, m.Z1); z0 < z1 {
			l = append(l, over(z0, z1, m.Area))
		}
	}
	return l
}

// P9.2: the largest solids that there are.
func TestSetsLargest(t *testing.T) {
	a := largest()
	b := largest()
	for i := range b {
		b[i].Area = posts(200, 2-i%2)
	}
	got, e := Union(a, b)
	check(t, "Union", got, e, pile(over(0, 80, posts(200, 2))), api.OK)
	got, e = Common(a, b)
	check(t, "Common", got, e, pile(over(0, 80, posts(200, 1))), api.OK)
	got, e = Minus(a, b)
	if e != api.OK || len(got) != 40 || Volume(got) != 40*200 || !equal(got[:1], pile(over(1, 2, moved(posts(200, 1), 0, 1)))) {
		fail(t, "Minus", e, got)
	}
	got, e = Union(a, raised(b, 80))
	check(t, "Union", got, e, nil, api.ErrFull)
	got, e = Union(a[:40], raised(b[:40], 40))
	checkSize(t, "Union", got, e, 79, 200)
}

// moved returns rectangles with other numbers.
func moved(l []api.Rect, dx, dy int) []api.Rect {
	l = slices.Clone(l)
	for i, r := range l {
		l[i] = api.Rect{X0: r.X0 + dx, Y0: r.Y0 + dy, X1: r.X1 + dx, Y1: r.Y1 + dy}
	}
	return l
}

// P9.3: a box for each slab and each rectangle of its area, in order.
func TestBoxes(t *testing.T) {
	for _, c := range []struct {
		s    []api.Slab
		want []api.Box
	}{
		{nil, nil}, {pile(), nil}, {cube(0, 0, 0), boxes(0, 0, 1, 1, 0, 1)}, {cube(end-1, 7, sky-1), boxes(end-1, 7, end, 8, sky-1, sky)}, {pile(slab(0, sky, 0, 0, end, end)), boxes(0, 0, end, end, 0, sky)},
		{pile(slab(0, 3, 0, 0, 2, 2), slab(3, 5, 0, 0, 1, 2)), boxes(0, 0, 2, 2, 0, 3, 0, 0, 1, 2, 3, 5)}, {pile(slab(0, 3, 0, 0, 2, 2), slab(4, 5, 0, 0, 2, 2)), boxes(0, 0, 2, 2, 0, 3, 0, 0, 2, 2, 4, 5)},
		{pile(over(2, 7, ring())), boxes(0, 0, 1, 3, 2, 7, 1, 0, 2, 1, 2, 7, 1, 2, 2, 3, 2, 7, 2, 0, 3, 3, 2, 7)}, {pile(slab(1, 2, 0, 0, 1, 1, 0, 2, 1, 3), slab(2, 4, 0, 2, 1, 3)), boxes(0, 0, 1, 1, 1, 2, 0, 2, 1, 3, 1, 2, 0, 2, 1, 3, 2, 4)},
		{pile(slab(5, 6, 0, 0, 1, 1, 7, 7, 8, 9), slab(6, 7, 0, 0, 1, 2), slab(9, 10, 3, 3, 4, 4)), boxes(0, 0, 1, 1, 5, 6, 7, 7, 8, 9, 5, 6, 0, 0, 1, 2, 6, 7, 3, 3, 4, 4, 9, 10)},
		{pile(over(8, 9, posts(200, 4))), boxesOver(posts(200, 4), 8, 9)}, {pile(over(8, 9, bars(199, 4)), over(9, 11, bars(200, 4))), append(boxesOver(bars(199, 4), 8, 9), boxesOver(bars(200, 4), 9, 11)...)},
	} {
		if got := Boxes(c.s); !slices.Equal(got, c.want) {
			fail(t, c.s, got, "not", c.want)
		}
	}
	if l := Boxes(largest()); len(l) != 16000 || l[201] != boxes(3, 0, 4, 2, 1, 2)[0] || l[15999] != boxes(399, 0, 400, 2, 79, 80)[0] {
		fail(t, "largest", l)
	}
	for _, wrong := range notSolids() {
		if got := Boxes(wrong); len(got) != 0 {
			fail(t, wrong, got)
		}
	}
}

// P9.4: the volume is the number of cubes, which has 53 bits for the whole grid.
func TestVolume(t *testing.T) {
	for _, c := range []struct {
		s      []api.Slab
		volume int
	}{
		{nil, 0}, {pile(), 0}, {cube(0, 0, 0), 1}, {cube(end-1, end-1, sky-1), 1}, {pile(slab(3, 9, 5, 7, 8, 19)), 6 * 3 * 12}, {pile(slab(0, 3, 0, 0, 2, 2), slab(3, 5, 0, 0, 1, 2)), 16}, {pile(slab(0, 3, 0, 0, 2, 2), slab(7, 8, 0, 0, 2, 2)), 16},
		{pile(slab(0, 1, 0, 0, 3, 3), over(1, 2, ring()), slab(2, 3, 0, 0, 3, 3)), 26}, {pile(over(2, 7, ring())), 40}, {pile(slab(0, sky, 0, 0, end, end)), 1 << 52}, {pile(slab(0, sky-1, 0, 0, end, end)), 1<<52 - 1<<40}, {pile(slab(0, sky, 0, 0, 1, 1)), sky},
		{pile(slab(0, 1, 0, 0, end, end), slab(1, sky, 1, 1, end, end)), 1<<40 + (sky-1)*(end-1)*(end-1)}, {steps(80, 1), 80 * 81 / 2}, {steps(80, 51), 51 * 80 * 81 / 2}, {largest(), 200 * 40 * 3}, {pile(over(7, 9, posts(200, end))), 400 * end}, {floors(80, 3, 2, ring()), 80 * 3 * 8},
	} {
		if Volume(c.s) != c.volume {
			fail(t, c.s, Volume(c.s), "not", c.volume)
		}
	}
	for _, wrong := range notSolids() {
		if Volume(wrong) != 0 {
			fail(t, wrong, Volume(wrong))
		}
	}
}

// around returns numbers from just outside of a range to just within it, and far ones.
func around(from, to int) []int {
	return []int{from - 1, from, from + 1, to - 1, to, to + 1, -1, 0, sky - 1, sky, end - 1, end, 1<<32 + from, math.MinInt, math.MinInt + from, math.MaxInt}
}

// P9.4: the cross-section of the slab that has the height, and none between slabs and outside of the heights.
func TestSection(t *testing.T) {
	u := pile(slab(1, 3, 0, 0, 2, 2), slab(3, 5, 0, 0, 1, 2), slab(7, 8, 5, 5, 6, 6, 5, 7, 6, 8))
	for z, want := range [][]api.Rect{nil, list(0, 0, 2, 2), list(0, 0, 2, 2), list(0, 0, 1, 2), list(0, 0, 1, 2), nil, nil, list(5, 5, 6, 6, 5, 7, 6, 8), nil, nil} {
		if got := Section(u, z); !slices.Equal(got, want) {
			fail(t, z, got, "not", want)
		}
	}
	for _, s := range solids() {
		for _, l := range append(copied(s), slab(0, sky, 0, 0, 1, 1)) {
			for _, z := range around(l.Z0, l.Z1) {
				var want []api.Rect
				for _, m := range s {
					if m.Z0 <= z && z < m.Z1 {
						want = m.Area
					}
				}
				if got := Section(s, z); !slices.Equal(got, want) {
					fail(t, []any{s, z}, got, "not", want)
				}
			}
		}
	}
	for _, wrong := range notSolids() {
		for _, l := range wrong[:min(len(wrong), 3)] {
			for _, z := range around(l.Z0, l.Z1) {
				if got := Section(wrong, z); len(got) != 0 {
					fail(t, []any{wrong, z}, got)
				}
			}
		}
	}
}

// corners returns cells around the corners of the area of a slab, and far ones, with many only of the first rectangles.
func corners(l api.Slab) [][2]int {
	var cells [][2]int
	for _, r := range append(slices.Clone(l.Area[:min(len(l.Area), 2)]), list(0, 0, end, end)...) {
		for _, x := range around(r.X0, r.X1) {
			for _, y := range around(r.Y0, r.Y1) {
				cells = append(cells, [2]int{x, y})
			}
		}
	}
	return cells
}

// inArea reports whether a cell is in an area, without the package's help.
func inArea(l api.Slab, x, y int) bool {
	return slices.ContainsFunc(l.Area, func(r api.Rect) bool { return r.X0 <= x && x < r.X1 && r.Y0 <= y && y < r.Y1 })
}

// P9.4: Top is above the highest cube over a cell, whatever is below it, and Has knows the cubes.
func TestTopHas(t *testing.T) {
	for _, s := range solids() {
		s := s[:min(len(s), 5)]
		for _, l := range append(copied(s), slab(0, sky)) {
			for _, c := range corners(l) {
				top := 0
				for _, m := range s {
					if inArea(m, c[0], c[1]) {
						top = m.Z1
					}
				}
				if got := Top(s, c[0], c[1]); got != top {
					fail(t, []any{"Top", s, c}, got, "not", top)
				}
				for _, z := range around(l.Z0, l.Z1) {
					is := slices.ContainsFunc(s, func(m api.Slab) bool { return m.Z0 <= z && z < m.Z1 && inArea(m, c[0], c[1]) })
					if Has(s, c[0], c[1], z) != is {
						fail(t, []any{"Has", s, c, z}, "not", is)
					}
				}
			}
		}
	}
}

// P9.4: heights over cells of some solids.
func TestTop(t *testing.T) {
	u := pile(slab(0, 3, 0, 0, 2, 2), slab(3, 5, 0, 0, 1, 2))
	room := pile(slab(0, 1, 0, 0, 3, 3), over(1, 2, ring()), slab(2, 3, 0, 0, 3, 3))
	for _, c := range []struct {
		s         []api.Slab
		x, y, top int
	}{
		{nil, 0, 0, 0}, {u, 0, 0, 5}, {u, 0, 1, 5}, {u, 1, 1, 3}, {u, 1, 0, 3}, {u, 2, 0, 0}, {u, 0, 2, 0}, {u, -1, 0, 0}, {u, 0, -1, 0}, {room, 1, 1, 3}, {room[:2], 1, 1, 1}, {room[:2], 0, 1, 2}, {room[1:2], 1, 1, 0}, {room, 3, 3, 0},
		{pile(slab(5, 6, 0, 0, 1, 1)), 0, 0, 6}, {pile(slab(0, 1, 0, 0, 1, 1), slab(9, 10, 0, 0, 1, 1)), 0, 0, 10}, {pile(slab(0, 1, 0, 0, 1, 1), slab(9, 10, 1, 0, 2, 1)), 0, 0, 1}, {pile(slab(0, sky, 0, 0, end, end)), end - 1, 0, sky}, {pile(slab(0, sky, 0, 0, end, end)), end, 0, 0},
		{cube(end-1, end-1, sky-1), end - 1, end - 1, sky}, {cube(0, 0, 0), 0, 0, 1}, {cube(0, 0, 0), 1, 0, 0}, {steps(80, 51), 0, 0, 80 * 51}, {steps(80, 51), 79, 0, 51}, {steps(80, 51), 40, 0, 40 * 51}, {largest(), 399, 0, 80}, {largest(), 399, 1, 80}, {largest(), 398, 0, 0}, {largest()[:79], 399, 1, 78},
	} {
		if got := Top(c.s, c.x, c.y); got != c.top {
			fail(t, []any{c.s, c.x, c.y}, got, "not", c.top)
		}
	}
}

// P9.4: what is not a solid has no cubes, also none of its valid slabs.
func TestTopHasInvalid(t *testing.T) {
	for _, wrong := range notSolids() {
		for _, l := range wrong[:min(len(wrong), 3)] {
			for _, c := range append(corners(l), [2]int{5, 5}) {
				if got := Top(wrong, c[0], c[1]); got != 0 {
					fail(t, []any{"Top", wrong, c}, got)
				}
				for _, z := range []int{l.Z0, l.Z1 - 1, 0, 4} {
					if Has(wrong, c[0], c[1], z) {
						fail(t, []any{"Has", wrong, c, z})
					}
				}
			}
		}
	}
}

// P9.4: lists are the same if they are equal, solids or not.
func TestSame(t *testing.T) {
	var all [][]api.Slab
	for _, s := range append(solids(), notSolids()...) {
		if !slices.ContainsFunc(all, func(other []api.Slab) bool { return equal(s, other) }) {
			all = append(all, s)
		}
	}
	if len(all) < 200 {
		t.Error("too few lists", len(all))
	}
	for i, a := range all {
		for j, b := range all {
			if Same(a, copied(b)) != (i == j) {
				fail(t, []any{a, b}, "not", i == j)
			}
		}
	}
	u := pile(slab(0, 3, 0, 0, 2, 2), slab(3, 5, 0, 0, 1, 2))
	for _, other := range [][]api.Slab{
		nil, u[:1], u[1:], append(copied(u), slab(5, 6, 0, 0, 1, 1)), pile(slab(1, 3, 0, 0, 2, 2), u[1]), pile(slab(0, 2, 0, 0, 2, 2), u[1]), pile(slab(0, 3, 0, 0, 2, 1), u[1]), pile(u[0], slab(4, 5, 0, 0, 1, 2)), pile(u[0], slab(3, 6, 0, 0, 1, 2)),
		pile(u[0], slab(3, 5, 0, 0, 2, 2)), pile(u[0], slab(3, 5)), pile(u[0], slab(3, 5, 0, 0, 1, 2, 0, 0, 1, 2)), pile(u[1], u[0]),
	} {
		if Same(u, other) || Same(other, u) || !Same(other, copied(other)) {
			fail(t, other, u)
		}
	}
	if !Same(nil, pile()) || !Same(pile(), nil) || !Same(pile(slab(9, 1)), pile(over(9, 1, []api.Rect{}))) || !Same(pile(slab(9, 1)), pile(slab(9, 1))) || Same(pile(slab(9, 1)), pile(slab(9, 1, 0, 0, 0, 0))) {
		t.Error("nothing")
	}
}
