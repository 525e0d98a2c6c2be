package parcel

import (
	"cmp"
	"slices"

	"greenbelt/api"
)

// The functions of this file look at the rectangles of many lots together. A land may have so many of them that no time is
// left for looking at each pair, and they are too many for the functions of package region.

// cells returns the rectangles of all lots.
func cells(lots []api.Lot) []api.Rect {
	var l []api.Rect
	for _, lot := range lots {
		l = append(l, lot.Area...)
	}
	return l
}

// meet reports whether a rectangle of a and one of b have a cell in common. All of them are valid.
func meet(a, b []api.Rect) bool {
	return slices.ContainsFunc(a, func(r api.Rect) bool {
		return slices.ContainsFunc(b, func(s api.Rect) bool {
			return max(r.X0, s.X0) < min(r.X1, s.X1) && max(r.Y0, s.Y0) < min(r.Y1, s.Y1)
		})
	})
}

// side is the left or the right side of a rectangle: from it on there is one rectangle more or less in the rows from y0 to
// y1, as step says.
type side struct{ x, y0, y1, step int }

// areApart reports whether no two of some valid rectangles have a cell in common. It goes over the sides from left to
// right, and keeps in mind where the rectangles that stand there begin and end.
func areApart(l []api.Rect) bool {
	var rows []int
	var sides []side
	for _, r := range l {
		rows = append(rows, r.Y0)
		sides = append(sides, side{r.X0, r.Y0, r.Y1, 1}, side{r.X1, r.Y0, r.Y1, -1})
	}
	rows = ascending(rows)
	// What ends at an x is taken away before what begins there is added.
	slices.SortFunc(sides, func(a, b side) int { return cmp.Or(cmp.Compare(a.x, b.x), cmp.Compare(a.step, b.step)) })
	// Only rows in which something begins are told apart: an end counts for the next one of them.
	begun, ended := newCounts(len(rows)), newCounts(len(rows))
	for _, s := range sides {
		y0, _ := slices.BinarySearch(rows, s.y0)
		y1, _ := slices.BinarySearch(rows, s.y1)
		// All that begins below the upper end of a new rectangle has to end at its lower end, or below.
		if s.step > 0 && begun.before(y1) != ended.before(y0+1) {
			return false
		}
		begun.add(y0, s.step)
		ended.add(y1, s.step)
	}
	return true
}

// counts has a number for each index from 0 on. The element i is the sum of the numbers of as many indexes before i as the
// lowest bit of i says, so that a change and a sum take no more steps than i has bits.
type counts []int

// newCounts returns zeros for n indexes.
func newCounts(n int) counts { return make(counts, n+1) }

// add changes the number of an index.
func (c counts) add(i, step int) {
	for i++; i < len(c); i += i & -i {
		c[i] += step
	}
}

// before returns the sum of the numbers of all indexes before i.
func (c counts) before(i int) int {
	sum := 0
	for ; i > 0; i -= i & -i {
		sum += c[i]
	}
	return sum
}

// form returns the form of the cells of some valid rectangles that have no cells in common, and ErrFull if it has too many
// rectangles. Only the end result is limited: it does not matter what a part of the rectangles looks like.
func form(l []api.Rect) ([]api.Rect, api.Errno) {
	var corners []api.Point
	for _, r := range l {
		corners = append(corners, api.Point{X: r.X0, Y: r.Y0}, api.Point{X: r.X0, Y: r.Y1}, api.Point{X: r.X1, Y: r.Y0}, api.Point{X: r.X1, Y: r.Y1})
	}
	// Where one rectangle ends and another one begins the cells go on. So they begin or end in a column at the rows at which
	// an odd number of its rectangles do, and there is another such row, or one less, where an odd number of corners are.
	corners = odd(corners, func(p, q api.Point) int { return cmp.Or(cmp.Compare(p.X, q.X), cmp.Compare(p.Y, q.Y)) })
	var f []api.Rect
	var rows []int
	for i, p := range corners {
		rows = append(rows, p.Y)
		if i+1 < len(corners) && corners[i+1].X == p.X {
			continue
		}
		rows = odd(rows, cmp.Compare[int])
		for j := 1; j < len(rows); j += 2 {
			f = append(f, api.Rect{X0: p.X, Y0: rows[j-1], X1: corners[i+1].X, Y1: rows[j]})
		}
		// Later columns take no rectangles away.
		if len(f) > api.MaxRects {
			return nil, api.ErrFull
		}
	}
	return f, api.OK
}

// odd sorts a list, and returns the elements that stand in it an odd number of times, each once, in its memory.
func odd[T comparable](l []T, compare func(a, b T) int) []T {
	slices.SortFunc(l, compare)
	left := l[:0]
	for _, v := range l {
		if n := len(left); n > 0 && left[n-1] == v {
			left = left[:n-1]
		} else {
			left = append(left, v)
		}
	}
	return left
}
